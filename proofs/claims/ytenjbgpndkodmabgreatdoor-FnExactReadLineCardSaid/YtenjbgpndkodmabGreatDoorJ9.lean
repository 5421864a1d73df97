/-
  Chapter 9: may a line stand in an index; the specification's side. (written by mkn8.py) · Chapter 9: a line's text; both sides. (written by mkn9.py) · Chapter 9: a line read; both sides. (written by mkn10.py)
-/
import Derived.Test.YtenjbgpndkodmabGreatDoorJ8
import Derived.Test.YtenjbgpndkodmabGreatDoorJ5
import Derived.Test.YtenjbgpndkodmabGreatDoorJ0
import Derived.Deep.DeepCutAuto
namespace Go.Proofs.YtenjbgpndkodmabGreatDoor
set_option linter.unusedVariables false
set_option linter.unusedSimpArgs false
open Go.RowKit
set_option maxRecDepth 100000 in
set_option maxHeartbeats 8000000 in
theorem sLineOk_any (x : Lx) (w : World) (h1 : x.ke.size ≤ 1048576) (h2 : x.me.size ≤ 1048576) (h3 : x.la.size ≤ 1048576) :
    Calls Tryz.prog 9 #[lxV x] w fun e w' => e = .returned (.bool (linQ x)) ∧ Below w.heap.size w w' := by
  have HU := hideB2 (fun W => sUnsurt_any x.ke W h1)
  obtain ⟨dl, hdl⟩ := rlV_rlO x.la
  have HL := hideB2 (fun W => sReadLabel_any x.la W (by unfold maxLen; omega))
  rw [hdl] at HL
  have HM := hideB2 (fun W => l9method_any x.me W (by unfold maxLen; omega))
  have HQ : Hid (linQ x = (usO x.ke && (rlO x.la && (timeB x.ti && (withinB x.si 0 1 && (methQ x.me && (stQ x.st && (withinB x.se 0 39 && (withinB x.wh 0 60000 && withinB x.sz 0 60000))))))))) := rfl
  clear hdl h1 h2 h3
  have B1 := Blk.new w (lxC x) 26
  have HB := hideB2 (below_a1 w (.cells (lxC x) 26))
  generalize linQ x = r at *
  generalize usO x.ke = c1 at *
  generalize usU x.ke = U at *
  generalize rlO x.la = c2 at *
  generalize methQ x.me = c5 at *
  generalize hc3 : timeB x.ti = c3 at *
  obtain ⟨ho, pa, qu, po, hq⟩ := U
  obtain ⟨ke, ti, si, me, st, la, rv, se, wh, sz⟩ := x
  unfold lxV
  unfold lxC at *
  simp only at *
  go_enter Tryz.func9, Tryz.ntmps9
  go_wp2_with fail
  refine (HU.out _).mono ?_
  rintro e1 w1 ⟨rfl, hb1⟩
  unfold valU
  simp only
  have B2 := B1.later hb1
  have HB2 := hideB2 (below_then HB.out hb1)
  clear hb1 B1 HB HU
  obtain ⟨p0, p1, p2, p3, p4, p5, p6, p7, p8, p9⟩ := (B2.alloc (.cells #[.string ho, .int .i64 po, .string pa, .string qu, .bool hq] 46)).c10
  have HB1 := hideB2 B2
  clear B2
  go_wp2_with fail
  refine (HL.out _).mono ?_
  rintro e2 w2 ⟨rfl, hb2⟩
  have B3 := (HB1.out.alloc (.cells #[.string ho, .int .i64 po, .string pa, .string qu, .bool hq] 46)).later hb2
  have HB3 := hideB2 (below_then (below_then HB2.out (below_a1 w1 (.cells #[.string ho, .int .i64 po, .string pa, .string qu, .bool hq] 46))) hb2)
  clear p0 p1 p2 p3 p4 p5 p6 p7 p8 p9 hb2 HB1 HB2 HL
  rename_i K1 hK1 K2 hK2
  refine hK2 _ _ ?_
  refine wp_quiet_here (fun hne0 => ?_)
  repeat (go_big_quiet_step (fail))
  refine wpQuiet_nil ?_
  rintro _ ⟨V0, rfl⟩
  refine hK1 _ _ ?_
  have B4 := B3.later (grw_below w2 V0)
  have HB4 := hideB2 (below_then HB3.out (grw_below w2 V0))
  clear B3 HB3 hK1 hK2
  generalize grw w2 V0 = w2 at *
  refine wp_seq_k ?_
  intro K3 hK3
  refine wp_region_lit ?_
  simp only [List.append_eq, List.cons_append, List.nil_append]
  obtain ⟨p0, p1, p2, p3, p4, p5, p6, p7, p8, p9⟩ := B4.c10
  have a0 := fun V => grw_some p0 V
  have a1 := fun V => grw_some p1 V
  have a2 := fun V => grw_some p2 V
  have a3 := fun V => grw_some p3 V
  have a4 := fun V => grw_some p4 V
  have a5 := fun V => grw_some p5 V
  have a6 := fun V => grw_some p6 V
  have a7 := fun V => grw_some p7 V
  have a8 := fun V => grw_some p8 V
  have a9 := fun V => grw_some p9 V
  clear p0 p1 p2 p3 p4 p5 p6 p7 p8 p9 B4
  have HBV := hideB2 (fun V => below_then HB4.out (grw_below _ V))
  clear HB4
  refine wp_quiet_here (fun hne => ?_)
  cases c1
  · skip
    have HR := hideB2 (show r = false by rw [HQ.out]; simp [withinB, stQ])
    clear HQ
    repeat (first | (refine quiet_pass rfl rfl ?_) | (go_big_quiet_step (first
      | (go_at_call 28; exact grow_same (l2time_any _ _))
      | (go_at_call 29; exact grow_same (HM.out _)))))
    refine wpQuiet_nil ?_
    rintro _ ⟨V, rfl⟩
    have HB3 := hideB2 (HBV.out V)
    clear a0 a1 a2 a3 a4 a5 a6 a7 a8 a9 HBV
    refine hK3 _ _ ?_
    clear hK3
    generalize grw _ V = w3 at *
    go_wp2
    go_ret
    exact ⟨ret_bool HR.out, HB3.out⟩
  · skip
    cases c3
    · skip
      have HR := hideB2 (show r = false by rw [HQ.out]; simp [withinB, stQ])
      clear HQ
      repeat (first | (refine quiet_pass rfl rfl ?_) | (go_big_quiet_step (first
        | (go_at_call 28; exact grow_same (l2time_any _ _))
        | (go_at_call 29; exact grow_same (HM.out _)))))
      refine wpQuiet_nil ?_
      rintro _ ⟨V, rfl⟩
      have HB3 := hideB2 (HBV.out V)
      clear a0 a1 a2 a3 a4 a5 a6 a7 a8 a9 HBV
      refine hK3 _ _ ?_
      clear hK3
      generalize grw _ V = w3 at *
      go_wp2
      go_ret
      exact ⟨ret_bool HR.out, HB3.out⟩
    · skip
      by_cases hs : si = 0 ∨ si = 1
      · skip
        have hw4 : withinB si 0 1 = true := within_iff.2 (by omega)
        rw [hw4] at HQ
        have hor : (si == 0) = true ∨ (si == 0) = false ∧ (si == 1) = true := by rcases hs with rfl | rfl <;> simp
        have HOR := hideB2 hor
        clear hs hw4 hor
        cases c5
        · skip
          have HR := hideB2 (show r = false by rw [HQ.out]; simp [withinB, stQ])
          clear HQ
          rcases HOR.out with hsa | ⟨hsa, hsb⟩
          · skip
            repeat (go_big_quiet_step (first
              | (go_at_call 28; exact grow_same (l2time_any _ _))
              | (go_at_call 29; exact grow_same (HM.out _))))
            refine wpQuiet_nil ?_
            rintro _ ⟨V, rfl⟩
            have HB3 := hideB2 (HBV.out V)
            clear a0 a1 a2 a3 a4 a5 a6 a7 a8 a9 HBV
            refine hK3 _ _ ?_
            clear hK3
            generalize grw _ V = w3 at *
            go_wp2
            go_ret
            exact ⟨ret_bool HR.out, HB3.out⟩
          · skip
            repeat (go_big_quiet_step (first
              | (go_at_call 28; exact grow_same (l2time_any _ _))
              | (go_at_call 29; exact grow_same (HM.out _))))
            refine wpQuiet_nil ?_
            rintro _ ⟨V, rfl⟩
            have HB3 := hideB2 (HBV.out V)
            clear a0 a1 a2 a3 a4 a5 a6 a7 a8 a9 HBV
            refine hK3 _ _ ?_
            clear hK3
            generalize grw _ V = w3 at *
            go_wp2
            go_ret
            exact ⟨ret_bool HR.out, HB3.out⟩
        · skip
          by_cases ka : 200 ≤ st
          rotate_left
          · skip
            have HR := hideB2 (show r = false by rw [HQ.out]; simp [withinB, stQ, ka])
            clear HQ
            rcases HOR.out with hsa | ⟨hsa, hsb⟩
            · skip
              repeat (go_big_quiet_step (first
                | (go_at_call 28; exact grow_same (l2time_any _ _))
                | (go_at_call 29; exact grow_same (HM.out _))))
              refine wpQuiet_nil ?_
              rintro _ ⟨V, rfl⟩
              have HB3 := hideB2 (HBV.out V)
              clear a0 a1 a2 a3 a4 a5 a6 a7 a8 a9 HBV
              refine hK3 _ _ ?_
              clear hK3
              generalize grw _ V = w3 at *
              go_wp2
              go_ret
              exact ⟨ret_bool HR.out, HB3.out⟩
            · skip
              repeat (go_big_quiet_step (first
                | (go_at_call 28; exact grow_same (l2time_any _ _))
                | (go_at_call 29; exact grow_same (HM.out _))))
              refine wpQuiet_nil ?_
              rintro _ ⟨V, rfl⟩
              have HB3 := hideB2 (HBV.out V)
              clear a0 a1 a2 a3 a4 a5 a6 a7 a8 a9 HBV
              refine hK3 _ _ ?_
              clear hK3
              generalize grw _ V = w3 at *
              go_wp2
              go_ret
              exact ⟨ret_bool HR.out, HB3.out⟩
          · skip
            by_cases kb : st ≤ 599
            rotate_left
            · skip
              have HR := hideB2 (show r = false by rw [HQ.out]; simp [withinB, stQ, ka, kb])
              clear HQ
              rcases HOR.out with hsa | ⟨hsa, hsb⟩
              · skip
                repeat (go_big_quiet_step (first
                  | (go_at_call 28; exact grow_same (l2time_any _ _))
                  | (go_at_call 29; exact grow_same (HM.out _))))
                refine wpQuiet_nil ?_
                rintro _ ⟨V, rfl⟩
                have HB3 := hideB2 (HBV.out V)
                clear a0 a1 a2 a3 a4 a5 a6 a7 a8 a9 HBV
                refine hK3 _ _ ?_
                clear hK3
                generalize grw _ V = w3 at *
                go_wp2
                go_ret
                exact ⟨ret_bool HR.out, HB3.out⟩
              · skip
                repeat (go_big_quiet_step (first
                  | (go_at_call 28; exact grow_same (l2time_any _ _))
                  | (go_at_call 29; exact grow_same (HM.out _))))
                refine wpQuiet_nil ?_
                rintro _ ⟨V, rfl⟩
                have HB3 := hideB2 (HBV.out V)
                clear a0 a1 a2 a3 a4 a5 a6 a7 a8 a9 HBV
                refine hK3 _ _ ?_
                clear hK3
                generalize grw _ V = w3 at *
                go_wp2
                go_ret
                exact ⟨ret_bool HR.out, HB3.out⟩
            · skip
              cases c2
              · skip
                have HR := hideB2 (show r = false by rw [HQ.out]; simp [withinB, stQ, ka, kb])
                clear HQ
                rcases HOR.out with hsa | ⟨hsa, hsb⟩
                · skip
                  repeat (go_big_quiet_step (first
                    | (go_at_call 28; exact grow_same (l2time_any _ _))
                    | (go_at_call 29; exact grow_same (HM.out _))))
                  refine wpQuiet_nil ?_
                  rintro _ ⟨V, rfl⟩
                  have HB3 := hideB2 (HBV.out V)
                  clear a0 a1 a2 a3 a4 a5 a6 a7 a8 a9 HBV
                  refine hK3 _ _ ?_
                  clear hK3
                  generalize grw _ V = w3 at *
                  go_wp2
                  go_ret
                  exact ⟨ret_bool HR.out, HB3.out⟩
                · skip
                  repeat (go_big_quiet_step (first
                    | (go_at_call 28; exact grow_same (l2time_any _ _))
                    | (go_at_call 29; exact grow_same (HM.out _))))
                  refine wpQuiet_nil ?_
                  rintro _ ⟨V, rfl⟩
                  have HB3 := hideB2 (HBV.out V)
                  clear a0 a1 a2 a3 a4 a5 a6 a7 a8 a9 HBV
                  refine hK3 _ _ ?_
                  clear hK3
                  generalize grw _ V = w3 at *
                  go_wp2
                  go_ret
                  exact ⟨ret_bool HR.out, HB3.out⟩
              · skip
                by_cases kc : 0 ≤ se
                rotate_left
                · skip
                  have HR := hideB2 (show r = false by rw [HQ.out]; simp [withinB, stQ, ka, kb, kc])
                  clear HQ
                  rcases HOR.out with hsa | ⟨hsa, hsb⟩
                  · skip
                    repeat (go_big_quiet_step (first
                      | (go_at_call 28; exact grow_same (l2time_any _ _))
                      | (go_at_call 29; exact grow_same (HM.out _))))
                    refine wpQuiet_nil ?_
                    rintro _ ⟨V, rfl⟩
                    have HB3 := hideB2 (HBV.out V)
                    clear a0 a1 a2 a3 a4 a5 a6 a7 a8 a9 HBV
                    refine hK3 _ _ ?_
                    clear hK3
                    generalize grw _ V = w3 at *
                    go_wp2
                    go_ret
                    exact ⟨ret_bool HR.out, HB3.out⟩
                  · skip
                    repeat (go_big_quiet_step (first
                      | (go_at_call 28; exact grow_same (l2time_any _ _))
                      | (go_at_call 29; exact grow_same (HM.out _))))
                    refine wpQuiet_nil ?_
                    rintro _ ⟨V, rfl⟩
                    have HB3 := hideB2 (HBV.out V)
                    clear a0 a1 a2 a3 a4 a5 a6 a7 a8 a9 HBV
                    refine hK3 _ _ ?_
                    clear hK3
                    generalize grw _ V = w3 at *
                    go_wp2
                    go_ret
                    exact ⟨ret_bool HR.out, HB3.out⟩
                · skip
                  by_cases kd : se < 40
                  rotate_left
                  · skip
                    have kd2 : ¬ se ≤ 39 := by omega
                    have HR := hideB2 (show r = false by rw [HQ.out]; simp [withinB, stQ, ka, kb, kc, kd2])
                    clear HQ
                    rcases HOR.out with hsa | ⟨hsa, hsb⟩
                    · skip
                      repeat (go_big_quiet_step (first
                        | (go_at_call 28; exact grow_same (l2time_any _ _))
                        | (go_at_call 29; exact grow_same (HM.out _))))
                      refine wpQuiet_nil ?_
                      rintro _ ⟨V, rfl⟩
                      have HB3 := hideB2 (HBV.out V)
                      clear a0 a1 a2 a3 a4 a5 a6 a7 a8 a9 HBV
                      refine hK3 _ _ ?_
                      clear hK3
                      generalize grw _ V = w3 at *
                      go_wp2
                      go_ret
                      exact ⟨ret_bool HR.out, HB3.out⟩
                    · skip
                      repeat (go_big_quiet_step (first
                        | (go_at_call 28; exact grow_same (l2time_any _ _))
                        | (go_at_call 29; exact grow_same (HM.out _))))
                      refine wpQuiet_nil ?_
                      rintro _ ⟨V, rfl⟩
                      have HB3 := hideB2 (HBV.out V)
                      clear a0 a1 a2 a3 a4 a5 a6 a7 a8 a9 HBV
                      refine hK3 _ _ ?_
                      clear hK3
                      generalize grw _ V = w3 at *
                      go_wp2
                      go_ret
                      exact ⟨ret_bool HR.out, HB3.out⟩
                  · skip
                    have kd3 : se ≤ 39 := by omega
                    by_cases ke2 : 0 ≤ wh
                    rotate_left
                    · skip
                      have HR := hideB2 (show r = false by rw [HQ.out]; simp [withinB, stQ, ka, kb, kc, kd3, ke2])
                      clear HQ
                      rcases HOR.out with hsa | ⟨hsa, hsb⟩
                      · skip
                        repeat (go_big_quiet_step (first
                          | (go_at_call 28; exact grow_same (l2time_any _ _))
                          | (go_at_call 29; exact grow_same (HM.out _))))
                        refine wpQuiet_nil ?_
                        rintro _ ⟨V, rfl⟩
                        have HB3 := hideB2 (HBV.out V)
                        clear a0 a1 a2 a3 a4 a5 a6 a7 a8 a9 HBV
                        refine hK3 _ _ ?_
                        clear hK3
                        generalize grw _ V = w3 at *
                        go_wp2
                        go_ret
                        exact ⟨ret_bool HR.out, HB3.out⟩
                      · skip
                        repeat (go_big_quiet_step (first
                          | (go_at_call 28; exact grow_same (l2time_any _ _))
                          | (go_at_call 29; exact grow_same (HM.out _))))
                        refine wpQuiet_nil ?_
                        rintro _ ⟨V, rfl⟩
                        have HB3 := hideB2 (HBV.out V)
                        clear a0 a1 a2 a3 a4 a5 a6 a7 a8 a9 HBV
                        refine hK3 _ _ ?_
                        clear hK3
                        generalize grw _ V = w3 at *
                        go_wp2
                        go_ret
                        exact ⟨ret_bool HR.out, HB3.out⟩
                    · skip
                      by_cases kf : wh ≤ 60000
                      rotate_left
                      · skip
                        have HR := hideB2 (show r = false by rw [HQ.out]; simp [withinB, stQ, ka, kb, kc, kd3, ke2, kf])
                        clear HQ
                        rcases HOR.out with hsa | ⟨hsa, hsb⟩
                        · skip
                          repeat (go_big_quiet_step (first
                            | (go_at_call 28; exact grow_same (l2time_any _ _))
                            | (go_at_call 29; exact grow_same (HM.out _))))
                          refine wpQuiet_nil ?_
                          rintro _ ⟨V, rfl⟩
                          have HB3 := hideB2 (HBV.out V)
                          clear a0 a1 a2 a3 a4 a5 a6 a7 a8 a9 HBV
                          refine hK3 _ _ ?_
                          clear hK3
                          generalize grw _ V = w3 at *
                          go_wp2
                          go_ret
                          exact ⟨ret_bool HR.out, HB3.out⟩
                        · skip
                          repeat (go_big_quiet_step (first
                            | (go_at_call 28; exact grow_same (l2time_any _ _))
                            | (go_at_call 29; exact grow_same (HM.out _))))
                          refine wpQuiet_nil ?_
                          rintro _ ⟨V, rfl⟩
                          have HB3 := hideB2 (HBV.out V)
                          clear a0 a1 a2 a3 a4 a5 a6 a7 a8 a9 HBV
                          refine hK3 _ _ ?_
                          clear hK3
                          generalize grw _ V = w3 at *
                          go_wp2
                          go_ret
                          exact ⟨ret_bool HR.out, HB3.out⟩
                      · skip
                        by_cases kg : 0 ≤ sz
                        rotate_left
                        · skip
                          have HR := hideB2 (show r = false by rw [HQ.out]; simp [withinB, stQ, ka, kb, kc, kd3, ke2, kf, kg])
                          clear HQ
                          rcases HOR.out with hsa | ⟨hsa, hsb⟩
                          · skip
                            repeat (go_big_quiet_step (first
                              | (go_at_call 28; exact grow_same (l2time_any _ _))
                              | (go_at_call 29; exact grow_same (HM.out _))))
                            refine wpQuiet_nil ?_
                            rintro _ ⟨V, rfl⟩
                            have HB3 := hideB2 (HBV.out V)
                            clear a0 a1 a2 a3 a4 a5 a6 a7 a8 a9 HBV
                            refine hK3 _ _ ?_
                            clear hK3
                            generalize grw _ V = w3 at *
                            go_wp2
                            go_ret
                            exact ⟨ret_bool HR.out, HB3.out⟩
                          · skip
                            repeat (go_big_quiet_step (first
                              | (go_at_call 28; exact grow_same (l2time_any _ _))
                              | (go_at_call 29; exact grow_same (HM.out _))))
                            refine wpQuiet_nil ?_
                            rintro _ ⟨V, rfl⟩
                            have HB3 := hideB2 (HBV.out V)
                            clear a0 a1 a2 a3 a4 a5 a6 a7 a8 a9 HBV
                            refine hK3 _ _ ?_
                            clear hK3
                            generalize grw _ V = w3 at *
                            go_wp2
                            go_ret
                            exact ⟨ret_bool HR.out, HB3.out⟩
                        · skip
                          by_cases kh : sz ≤ 60000
                          rotate_left
                          · skip
                            have HR := hideB2 (show r = false by rw [HQ.out]; simp [withinB, stQ, ka, kb, kc, kd3, ke2, kf, kg, kh])
                            clear HQ
                            rcases HOR.out with hsa | ⟨hsa, hsb⟩
                            · skip
                              repeat (go_big_quiet_step (first
                                | (go_at_call 28; exact grow_same (l2time_any _ _))
                                | (go_at_call 29; exact grow_same (HM.out _))))
                              refine wpQuiet_nil ?_
                              rintro _ ⟨V, rfl⟩
                              have HB3 := hideB2 (HBV.out V)
                              clear a0 a1 a2 a3 a4 a5 a6 a7 a8 a9 HBV
                              refine hK3 _ _ ?_
                              clear hK3
                              generalize grw _ V = w3 at *
                              go_wp2
                              go_ret
                              exact ⟨ret_bool HR.out, HB3.out⟩
                            · skip
                              repeat (go_big_quiet_step (first
                                | (go_at_call 28; exact grow_same (l2time_any _ _))
                                | (go_at_call 29; exact grow_same (HM.out _))))
                              refine wpQuiet_nil ?_
                              rintro _ ⟨V, rfl⟩
                              have HB3 := hideB2 (HBV.out V)
                              clear a0 a1 a2 a3 a4 a5 a6 a7 a8 a9 HBV
                              refine hK3 _ _ ?_
                              clear hK3
                              generalize grw _ V = w3 at *
                              go_wp2
                              go_ret
                              exact ⟨ret_bool HR.out, HB3.out⟩
                          · skip
                            have HR := hideB2 (show r = true by rw [HQ.out]; simp [withinB, stQ, ka, kb, kc, kd3, ke2, kf, kg, kh])
                            clear HQ
                            rcases HOR.out with hsa | ⟨hsa, hsb⟩
                            · skip
                              repeat (go_big_quiet_step (first
                                | (go_at_call 28; exact grow_same (l2time_any _ _))
                                | (go_at_call 29; exact grow_same (HM.out _))))
                              refine wpQuiet_nil ?_
                              rintro _ ⟨V, rfl⟩
                              have HB3 := hideB2 (HBV.out V)
                              clear a0 a1 a2 a3 a4 a5 a6 a7 a8 a9 HBV
                              refine hK3 _ _ ?_
                              clear hK3
                              generalize grw _ V = w3 at *
                              go_wp2
                              go_ret
                              exact ⟨ret_bool HR.out, HB3.out⟩
                            · skip
                              repeat (go_big_quiet_step (first
                                | (go_at_call 28; exact grow_same (l2time_any _ _))
                                | (go_at_call 29; exact grow_same (HM.out _))))
                              refine wpQuiet_nil ?_
                              rintro _ ⟨V, rfl⟩
                              have HB3 := hideB2 (HBV.out V)
                              clear a0 a1 a2 a3 a4 a5 a6 a7 a8 a9 HBV
                              refine hK3 _ _ ?_
                              clear hK3
                              generalize grw _ V = w3 at *
                              go_wp2
                              go_ret
                              exact ⟨ret_bool HR.out, HB3.out⟩
      · skip
        have hw4 : withinB si 0 1 = false := by
          cases hh : withinB si 0 1
          · rfl
          · exact absurd (within_iff.1 hh) (by omega)
        rw [hw4] at HQ
        have hsa : (si == 0) = false := by simp; omega
        have hsb : (si == 1) = false := by simp; omega
        clear hs hw4
        have HR := hideB2 (show r = false by rw [HQ.out]; simp)
        clear HQ
        repeat (go_big_quiet_step (first
          | (go_at_call 28; exact grow_same (l2time_any _ _))
          | (go_at_call 29; exact grow_same (HM.out _))))
        refine wpQuiet_nil ?_
        rintro _ ⟨V, rfl⟩
        have HB3 := hideB2 (HBV.out V)
        clear a0 a1 a2 a3 a4 a5 a6 a7 a8 a9 HBV
        refine hK3 _ _ ?_
        clear hK3
        generalize grw _ V = w3 at *
        go_wp2
        go_ret
        exact ⟨ret_bool HR.out, HB3.out⟩
end Go.Proofs.YtenjbgpndkodmabGreatDoor
namespace Go.Proofs.YtenjbgpndkodmabGreatDoor
set_option linter.unusedVariables false
set_option linter.unusedSimpArgs false
open Go.RowKit
theorem bl3 (c : UInt8) : (⟨#[32, c, 32]⟩ : ByteArray) = ((⟨#[32]⟩ : ByteArray) ++ ⟨#[c]⟩) ++ ⟨#[32]⟩ := by
  apply bytes_ext
  rw [Go.Joins.data_append, Go.Joins.data_append]
  rfl
theorem joinS10 (a0 a1 a2 a3 a4 a5 a6 a7 a8 a9 : ByteArray) : joinS 32 [a0, a1, a2, a3, a4, a5, a6, a7, a8, a9] = ((((((((((((((((((a0 ++ (⟨#[32]⟩ : ByteArray)) ++ a1) ++ (⟨#[32]⟩ : ByteArray)) ++ a2) ++ (⟨#[32]⟩ : ByteArray)) ++ a3) ++ (⟨#[32]⟩ : ByteArray)) ++ a4) ++ (⟨#[32]⟩ : ByteArray)) ++ a5) ++ (⟨#[32]⟩ : ByteArray)) ++ a6) ++ (⟨#[32]⟩ : ByteArray)) ++ a7) ++ (⟨#[32]⟩ : ByteArray)) ++ a8) ++ (⟨#[32]⟩ : ByteArray)) ++ a9) := by
  rw [joinS_two, joinS_two, joinS_two, joinS_two, joinS_two, joinS_two, joinS_two, joinS_two, joinS_two, joinS_one]
  simp only [← bytes_assoc]
theorem lit_form (a0 a1 a3 a4 a5 a7 a8 a9 : ByteArray) (c d : UInt8) : joinS 32 [a0, a1, ⟨#[c]⟩, a3, a4, a5, ⟨#[d]⟩, a7, a8, a9] = (((((((((((((a0 ++ (⟨#[32]⟩ : ByteArray)) ++ a1) ++ ⟨#[32, c, 32]⟩) ++ a3) ++ (⟨#[32]⟩ : ByteArray)) ++ a4) ++ (⟨#[32]⟩ : ByteArray)) ++ a5) ++ ⟨#[32, d, 32]⟩) ++ a7) ++ (⟨#[32]⟩ : ByteArray)) ++ a8) ++ (⟨#[32]⟩ : ByteArray)) ++ a9 := by
  rw [joinS10, bl3 c, bl3 d]
  simp only [← bytes_assoc]
set_option maxRecDepth 100000 in
set_option maxHeartbeats 4000000 in
theorem LineText_any (x : Lx) (w : World) (h1 : x.ke.size ≤ 1048576) (h2 : x.me.size ≤ 1048576) (h3 : x.la.size ≤ 1048576) (htab : Tab10 w) (hM : MonTab w) :
    Calls Tryz.prog 13 #[lxV x] w fun e w' => e = .returned (.string (litB x)) ∧ Below w.heap.size w w' := by
  have HK := hideB2 (fun W (h : Tab10 W) => LineOk_any x W h1 h2 h3 h)
  have HT := hideB2 htab
  have HMT := hideB2 hM
  have B1 := Blk.new w (lxC x) 26
  have HB := hideB2 (below_a1 w (.cells (lxC x) 26))
  clear h1 h2 h3 htab hM
  cases hq : linQ x
  · rw [litB_no hq]
    rw [hq] at HK
    clear hq
    obtain ⟨ke, ti, si, me, st, la, rv, se, wh, sz⟩ := x
    unfold lxV at *
    unfold lxC at *
    simp only at *
    go_enter Tryz.func13, Tryz.ntmps13
    go_wp2_with fail
    refine (HK.out _ (tab_later HT.out HB.out)).mono ?_
    rintro e1 w1 ⟨rfl, hb1⟩
    have HB1 := hideB2 (below_then HB.out hb1)
    clear hb1 B1
    go_wp2
    go_ret
    exact ⟨rfl, HB1.out⟩
  · have hz := lit_size hq
    rw [litB_yes hq] at *
    rw [hq] at HK
    clear hq
    have HJ := hideB2 (fun w0 W v hb => JoinS_any w0 W v 32 (wdsX x) hb (by simp [wdsX]) (by omega))
    unfold wdsX at *
    generalize joinS 32 [x.ke, stpT x.ti, sdW x.si, x.me, decT x.st, x.la, rvW x.rv, decT x.se, decT x.wh, decT x.sz] = R at *
    obtain ⟨ke, ti, si, me, st, la, rv, se, wh, sz⟩ := x
    unfold lxV at *
    unfold lxC at *
    simp only at *
    go_enter Tryz.func13, Tryz.ntmps13
    go_wp2_with fail
    refine (HK.out _ (tab_later HT.out HB.out)).mono ?_
    rintro e1 w1 ⟨rfl, hb1⟩
    have B2 := B1.later hb1
    have HB1 := hideB2 (below_then HB.out hb1)
    have HT1 := hideB2 (fun V : Gr w1 => tab_later (tab_later HT.out HB1.out) (grw_below w1 V))
    have HM1 := hideB2 (fun V : Gr w1 => (HMT.out.below HB1.out).below (grw_below w1 V))
    clear hb1 B1
    obtain ⟨p0, p1, p2, p3, p4, p5, p6, p7, p8, p9⟩ := B2.c10
    have a0 := fun V => grw_some p0 V
    have a1 := fun V => grw_some p1 V
    have a2 := fun V => grw_some p2 V
    have a3 := fun V => grw_some p3 V
    have a4 := fun V => grw_some p4 V
    have a5 := fun V => grw_some p5 V
    have a6 := fun V => grw_some p6 V
    have a7 := fun V => grw_some p7 V
    have a8 := fun V => grw_some p8 V
    have a9 := fun V => grw_some p9 V
    clear p0 p1 p2 p3 p4 p5 p6 p7 p8 p9 B2
    go_wp2_with fail
    refine wp_region_grow_tail 27 ?_ ?_ ?_
    · kernel_rfl
    · kernel_rfl
    · intro hne
      simp only [List.take_succ_cons, List.take_zero, List.drop_succ_cons, List.drop_zero]
      repeat (go_big_quiet_step (first
        | (go_at_call 37; exact grow_call (Stamp_all _ _ (HM1.out _)))
        | (go_at_call 38; exact grow_same (sideWord_any _ _))
        | (go_at_call 39; exact grow_call (DecText_all _ _ (HT1.out _)))
        | (go_at_call 40; exact grow_same (kindWord_any _ _))))
      refine wpQuiet_nil ?_
      rintro _ ⟨V, rfl⟩
      have HB2 := hideB2 (below_then HB1.out (grw_below w1 V))
      clear a0 a1 a2 a3 a4 a5 a6 a7 a8 a9 HT1 HM1
      generalize grw w1 V = w3 at *
      generalize stpT ti = s1 at *
      generalize sdW si = s2 at *
      generalize decT st = s4 at *
      generalize rvW rv = s6 at *
      generalize decT se = s7 at *
      generalize decT wh = s8 at *
      generalize decT sz = s9 at *
      have HBF := hideB2 (buf_made w3 [ke, s1, s2, me, s4, la, s6, s7, s8, s9] (by simp) (by simp [maxLen]))
      go_wp2_with fail
      refine (HJ.out _ _ _ HBF.out).mono ?_
      rintro e4 w4 ⟨rfl, hb4⟩
      have HB4 := hideB2 (below_then HB2.out (below_then (below_a1 w3 _) hb4))
      clear hb4
      go_wp2
      go_ret
      exact ⟨rfl, HB4.out⟩
set_option maxRecDepth 100000 in
set_option maxHeartbeats 4000000 in
theorem l9text_any (x : Lx) (w : World) (h1 : x.ke.size ≤ 1048576) (h2 : x.me.size ≤ 1048576) (h3 : x.la.size ≤ 1048576) :
    Calls Tryz.prog 36 #[lxV x] w fun e w' => e = .returned (.string (joinS 32 (wdsX x))) ∧ Below w.heap.size w w' := by
  have HB := hideB2 (below_a1 w (.cells (lxC x) 26))
  have A1 := Blk.new w (lxC x) 26
  have z1 := stpT_size x.ti
  have z4 := decT_size x.st
  have z7 := decT_size x.se
  have z8 := decT_size x.wh
  have z9 := decT_size x.sz
  have HE : Hid (∀ c d : UInt8, sdW x.si = ⟨#[c]⟩ → rvW x.rv = ⟨#[d]⟩ → joinS 32 (wdsX x) = (((((((((((((x.ke ++ (⟨#[32]⟩ : ByteArray)) ++ stpT x.ti) ++ ⟨#[32, c, 32]⟩) ++ x.me) ++ (⟨#[32]⟩ : ByteArray)) ++ decT x.st) ++ (⟨#[32]⟩ : ByteArray)) ++ x.la) ++ ⟨#[32, d, 32]⟩) ++ decT x.se) ++ (⟨#[32]⟩ : ByteArray)) ++ decT x.wh) ++ (⟨#[32]⟩ : ByteArray)) ++ decT x.sz) := by
    intro c d hc hd
    unfold wdsX
    rw [hc, hd]
    exact lit_form _ _ _ _ _ _ _ _ c d
  have HS1 := hideB2 (fun W => sStamp_all x.ti W)
  have HD := hideB2 (fun n W => sDecText_all n W)
  generalize joinS 32 (wdsX x) = R at *
  obtain ⟨ke, ti, si, me, st, la, rv, se, wh, sz⟩ := x
  unfold lxV at *
  unfold lxC at *
  simp only at *
  have y0 : (⟨#[32]⟩ : ByteArray).size = 1 := rfl
  by_cases hs : si = 1
  · cases rv
    · skip
      subst hs
      have HR := hideB2 (HE.out 111 45 (by rfl) rfl)
      have y1 : (⟨#[32, 111, 32]⟩ : ByteArray).size = 3 := rfl
      have y2 : (⟨#[32, 45, 32]⟩ : ByteArray).size = 3 := rfl
      clear HE
      have k0 : (ke ++ (⟨#[32]⟩ : ByteArray)).size ≤ 1048577 := by rw [ByteArray.size_append]; omega
      have k1 : ((ke ++ (⟨#[32]⟩ : ByteArray)) ++ stpT ti).size ≤ 1048591 := by rw [ByteArray.size_append]; omega
      have k2 : (((ke ++ (⟨#[32]⟩ : ByteArray)) ++ stpT ti) ++ (⟨#[32, 111, 32]⟩ : ByteArray)).size ≤ 1048594 := by rw [ByteArray.size_append]; omega
      have k3 : ((((ke ++ (⟨#[32]⟩ : ByteArray)) ++ stpT ti) ++ (⟨#[32, 111, 32]⟩ : ByteArray)) ++ me).size ≤ 2097170 := by rw [ByteArray.size_append]; omega
      have k4 : (((((ke ++ (⟨#[32]⟩ : ByteArray)) ++ stpT ti) ++ (⟨#[32, 111, 32]⟩ : ByteArray)) ++ me) ++ (⟨#[32]⟩ : ByteArray)).size ≤ 2097171 := by rw [ByteArray.size_append]; omega
      have k5 : ((((((ke ++ (⟨#[32]⟩ : ByteArray)) ++ stpT ti) ++ (⟨#[32, 111, 32]⟩ : ByteArray)) ++ me) ++ (⟨#[32]⟩ : ByteArray)) ++ decT st).size ≤ 2097186 := by rw [ByteArray.size_append]; omega
      have k6 : (((((((ke ++ (⟨#[32]⟩ : ByteArray)) ++ stpT ti) ++ (⟨#[32, 111, 32]⟩ : ByteArray)) ++ me) ++ (⟨#[32]⟩ : ByteArray)) ++ decT st) ++ (⟨#[32]⟩ : ByteArray)).size ≤ 2097187 := by rw [ByteArray.size_append]; omega
      have k7 : ((((((((ke ++ (⟨#[32]⟩ : ByteArray)) ++ stpT ti) ++ (⟨#[32, 111, 32]⟩ : ByteArray)) ++ me) ++ (⟨#[32]⟩ : ByteArray)) ++ decT st) ++ (⟨#[32]⟩ : ByteArray)) ++ la).size ≤ 3145763 := by rw [ByteArray.size_append]; omega
      have k8 : (((((((((ke ++ (⟨#[32]⟩ : ByteArray)) ++ stpT ti) ++ (⟨#[32, 111, 32]⟩ : ByteArray)) ++ me) ++ (⟨#[32]⟩ : ByteArray)) ++ decT st) ++ (⟨#[32]⟩ : ByteArray)) ++ la) ++ (⟨#[32, 45, 32]⟩ : ByteArray)).size ≤ 3145766 := by rw [ByteArray.size_append]; omega
      have k9 : ((((((((((ke ++ (⟨#[32]⟩ : ByteArray)) ++ stpT ti) ++ (⟨#[32, 111, 32]⟩ : ByteArray)) ++ me) ++ (⟨#[32]⟩ : ByteArray)) ++ decT st) ++ (⟨#[32]⟩ : ByteArray)) ++ la) ++ (⟨#[32, 45, 32]⟩ : ByteArray)) ++ decT se).size ≤ 3145781 := by rw [ByteArray.size_append]; omega
      have k10 : (((((((((((ke ++ (⟨#[32]⟩ : ByteArray)) ++ stpT ti) ++ (⟨#[32, 111, 32]⟩ : ByteArray)) ++ me) ++ (⟨#[32]⟩ : ByteArray)) ++ decT st) ++ (⟨#[32]⟩ : ByteArray)) ++ la) ++ (⟨#[32, 45, 32]⟩ : ByteArray)) ++ decT se) ++ (⟨#[32]⟩ : ByteArray)).size ≤ 3145782 := by rw [ByteArray.size_append]; omega
      have k11 : ((((((((((((ke ++ (⟨#[32]⟩ : ByteArray)) ++ stpT ti) ++ (⟨#[32, 111, 32]⟩ : ByteArray)) ++ me) ++ (⟨#[32]⟩ : ByteArray)) ++ decT st) ++ (⟨#[32]⟩ : ByteArray)) ++ la) ++ (⟨#[32, 45, 32]⟩ : ByteArray)) ++ decT se) ++ (⟨#[32]⟩ : ByteArray)) ++ decT wh).size ≤ 3145797 := by rw [ByteArray.size_append]; omega
      have k12 : (((((((((((((ke ++ (⟨#[32]⟩ : ByteArray)) ++ stpT ti) ++ (⟨#[32, 111, 32]⟩ : ByteArray)) ++ me) ++ (⟨#[32]⟩ : ByteArray)) ++ decT st) ++ (⟨#[32]⟩ : ByteArray)) ++ la) ++ (⟨#[32, 45, 32]⟩ : ByteArray)) ++ decT se) ++ (⟨#[32]⟩ : ByteArray)) ++ decT wh) ++ (⟨#[32]⟩ : ByteArray)).size ≤ 3145798 := by rw [ByteArray.size_append]; omega
      have k13 : ((((((((((((((ke ++ (⟨#[32]⟩ : ByteArray)) ++ stpT ti) ++ (⟨#[32, 111, 32]⟩ : ByteArray)) ++ me) ++ (⟨#[32]⟩ : ByteArray)) ++ decT st) ++ (⟨#[32]⟩ : ByteArray)) ++ la) ++ (⟨#[32, 45, 32]⟩ : ByteArray)) ++ decT se) ++ (⟨#[32]⟩ : ByteArray)) ++ decT wh) ++ (⟨#[32]⟩ : ByteArray)) ++ decT sz).size ≤ 3145813 := by rw [ByteArray.size_append]; omega
      go_enter Tryz.func36, Tryz.ntmps36
      go_wp2
      generalize hW : w.alloc (.cells #[.string ke, .int .i64 ti, .int .i64 1, .string me, .int .i64 st, .string la, .bool false, .int .i64 se, .int .i64 wh, .int .i64 sz] 26) = W at *
      clear hW
      obtain ⟨p0, p1, p2, p3, p4, p5, p6, p7, p8, p9⟩ := A1.c10
      have a0 := fun V => grw_some p0 V
      have a1 := fun V => grw_some p1 V
      have a2 := fun V => grw_some p2 V
      have a3 := fun V => grw_some p3 V
      have a4 := fun V => grw_some p4 V
      have a5 := fun V => grw_some p5 V
      have a6 := fun V => grw_some p6 V
      have a7 := fun V => grw_some p7 V
      have a8 := fun V => grw_some p8 V
      have a9 := fun V => grw_some p9 V
      clear p0 p1 p2 p3 p4 p5 p6 p7 p8 p9 A1
      refine wp_region_grow ?_ ?_ ?_
      · kernel_rfl
      · kernel_rfl
      · intro hne
        repeat (go_big_quiet_step (first
          | (go_at_call 64; exact grow_call (HS1.out _))
          | (go_at_call 65; exact grow_call (HD.out _ _))))
        refine wpQuiet_nil ?_
        rintro _ ⟨V, rfl⟩
        have HBV := hideB2 (below_then HB.out (grw_below W V))
        generalize grw W V = w3 at *
        go_wp2
        go_ret
        exact ⟨ret_str HR.out, HBV.out⟩
    · skip
      subst hs
      have HR := hideB2 (HE.out 111 114 (by rfl) rfl)
      have y1 : (⟨#[32, 111, 32]⟩ : ByteArray).size = 3 := rfl
      have y2 : (⟨#[32, 114, 32]⟩ : ByteArray).size = 3 := rfl
      clear HE
      have k0 : (ke ++ (⟨#[32]⟩ : ByteArray)).size ≤ 1048577 := by rw [ByteArray.size_append]; omega
      have k1 : ((ke ++ (⟨#[32]⟩ : ByteArray)) ++ stpT ti).size ≤ 1048591 := by rw [ByteArray.size_append]; omega
      have k2 : (((ke ++ (⟨#[32]⟩ : ByteArray)) ++ stpT ti) ++ (⟨#[32, 111, 32]⟩ : ByteArray)).size ≤ 1048594 := by rw [ByteArray.size_append]; omega
      have k3 : ((((ke ++ (⟨#[32]⟩ : ByteArray)) ++ stpT ti) ++ (⟨#[32, 111, 32]⟩ : ByteArray)) ++ me).size ≤ 2097170 := by rw [ByteArray.size_append]; omega
      have k4 : (((((ke ++ (⟨#[32]⟩ : ByteArray)) ++ stpT ti) ++ (⟨#[32, 111, 32]⟩ : ByteArray)) ++ me) ++ (⟨#[32]⟩ : ByteArray)).size ≤ 2097171 := by rw [ByteArray.size_append]; omega
      have k5 : ((((((ke ++ (⟨#[32]⟩ : ByteArray)) ++ stpT ti) ++ (⟨#[32, 111, 32]⟩ : ByteArray)) ++ me) ++ (⟨#[32]⟩ : ByteArray)) ++ decT st).size ≤ 2097186 := by rw [ByteArray.size_append]; omega
      have k6 : (((((((ke ++ (⟨#[32]⟩ : ByteArray)) ++ stpT ti) ++ (⟨#[32, 111, 32]⟩ : ByteArray)) ++ me) ++ (⟨#[32]⟩ : ByteArray)) ++ decT st) ++ (⟨#[32]⟩ : ByteArray)).size ≤ 2097187 := by rw [ByteArray.size_append]; omega
      have k7 : ((((((((ke ++ (⟨#[32]⟩ : ByteArray)) ++ stpT ti) ++ (⟨#[32, 111, 32]⟩ : ByteArray)) ++ me) ++ (⟨#[32]⟩ : ByteArray)) ++ decT st) ++ (⟨#[32]⟩ : ByteArray)) ++ la).size ≤ 3145763 := by rw [ByteArray.size_append]; omega
      have k8 : (((((((((ke ++ (⟨#[32]⟩ : ByteArray)) ++ stpT ti) ++ (⟨#[32, 111, 32]⟩ : ByteArray)) ++ me) ++ (⟨#[32]⟩ : ByteArray)) ++ decT st) ++ (⟨#[32]⟩ : ByteArray)) ++ la) ++ (⟨#[32, 114, 32]⟩ : ByteArray)).size ≤ 3145766 := by rw [ByteArray.size_append]; omega
      have k9 : ((((((((((ke ++ (⟨#[32]⟩ : ByteArray)) ++ stpT ti) ++ (⟨#[32, 111, 32]⟩ : ByteArray)) ++ me) ++ (⟨#[32]⟩ : ByteArray)) ++ decT st) ++ (⟨#[32]⟩ : ByteArray)) ++ la) ++ (⟨#[32, 114, 32]⟩ : ByteArray)) ++ decT se).size ≤ 3145781 := by rw [ByteArray.size_append]; omega
      have k10 : (((((((((((ke ++ (⟨#[32]⟩ : ByteArray)) ++ stpT ti) ++ (⟨#[32, 111, 32]⟩ : ByteArray)) ++ me) ++ (⟨#[32]⟩ : ByteArray)) ++ decT st) ++ (⟨#[32]⟩ : ByteArray)) ++ la) ++ (⟨#[32, 114, 32]⟩ : ByteArray)) ++ decT se) ++ (⟨#[32]⟩ : ByteArray)).size ≤ 3145782 := by rw [ByteArray.size_append]; omega
      have k11 : ((((((((((((ke ++ (⟨#[32]⟩ : ByteArray)) ++ stpT ti) ++ (⟨#[32, 111, 32]⟩ : ByteArray)) ++ me) ++ (⟨#[32]⟩ : ByteArray)) ++ decT st) ++ (⟨#[32]⟩ : ByteArray)) ++ la) ++ (⟨#[32, 114, 32]⟩ : ByteArray)) ++ decT se) ++ (⟨#[32]⟩ : ByteArray)) ++ decT wh).size ≤ 3145797 := by rw [ByteArray.size_append]; omega
      have k12 : (((((((((((((ke ++ (⟨#[32]⟩ : ByteArray)) ++ stpT ti) ++ (⟨#[32, 111, 32]⟩ : ByteArray)) ++ me) ++ (⟨#[32]⟩ : ByteArray)) ++ decT st) ++ (⟨#[32]⟩ : ByteArray)) ++ la) ++ (⟨#[32, 114, 32]⟩ : ByteArray)) ++ decT se) ++ (⟨#[32]⟩ : ByteArray)) ++ decT wh) ++ (⟨#[32]⟩ : ByteArray)).size ≤ 3145798 := by rw [ByteArray.size_append]; omega
      have k13 : ((((((((((((((ke ++ (⟨#[32]⟩ : ByteArray)) ++ stpT ti) ++ (⟨#[32, 111, 32]⟩ : ByteArray)) ++ me) ++ (⟨#[32]⟩ : ByteArray)) ++ decT st) ++ (⟨#[32]⟩ : ByteArray)) ++ la) ++ (⟨#[32, 114, 32]⟩ : ByteArray)) ++ decT se) ++ (⟨#[32]⟩ : ByteArray)) ++ decT wh) ++ (⟨#[32]⟩ : ByteArray)) ++ decT sz).size ≤ 3145813 := by rw [ByteArray.size_append]; omega
      go_enter Tryz.func36, Tryz.ntmps36
      go_wp2
      generalize hW : w.alloc (.cells #[.string ke, .int .i64 ti, .int .i64 1, .string me, .int .i64 st, .string la, .bool true, .int .i64 se, .int .i64 wh, .int .i64 sz] 26) = W at *
      clear hW
      obtain ⟨p0, p1, p2, p3, p4, p5, p6, p7, p8, p9⟩ := A1.c10
      have a0 := fun V => grw_some p0 V
      have a1 := fun V => grw_some p1 V
      have a2 := fun V => grw_some p2 V
      have a3 := fun V => grw_some p3 V
      have a4 := fun V => grw_some p4 V
      have a5 := fun V => grw_some p5 V
      have a6 := fun V => grw_some p6 V
      have a7 := fun V => grw_some p7 V
      have a8 := fun V => grw_some p8 V
      have a9 := fun V => grw_some p9 V
      clear p0 p1 p2 p3 p4 p5 p6 p7 p8 p9 A1
      refine wp_region_grow ?_ ?_ ?_
      · kernel_rfl
      · kernel_rfl
      · intro hne
        repeat (go_big_quiet_step (first
          | (go_at_call 64; exact grow_call (HS1.out _))
          | (go_at_call 65; exact grow_call (HD.out _ _))))
        refine wpQuiet_nil ?_
        rintro _ ⟨V, rfl⟩
        have HBV := hideB2 (below_then HB.out (grw_below W V))
        generalize grw W V = w3 at *
        go_wp2
        go_ret
        exact ⟨ret_str HR.out, HBV.out⟩
  · have hsb : (si == 1) = false := by simpa using hs
    cases rv
    · skip
      have HR := hideB2 (HE.out 99 45 (by unfold sdW; rw [if_neg hs]) rfl)
      have y1 : (⟨#[32, 99, 32]⟩ : ByteArray).size = 3 := rfl
      have y2 : (⟨#[32, 45, 32]⟩ : ByteArray).size = 3 := rfl
      clear HE
      have k0 : (ke ++ (⟨#[32]⟩ : ByteArray)).size ≤ 1048577 := by rw [ByteArray.size_append]; omega
      have k1 : ((ke ++ (⟨#[32]⟩ : ByteArray)) ++ stpT ti).size ≤ 1048591 := by rw [ByteArray.size_append]; omega
      have k2 : (((ke ++ (⟨#[32]⟩ : ByteArray)) ++ stpT ti) ++ (⟨#[32, 99, 32]⟩ : ByteArray)).size ≤ 1048594 := by rw [ByteArray.size_append]; omega
      have k3 : ((((ke ++ (⟨#[32]⟩ : ByteArray)) ++ stpT ti) ++ (⟨#[32, 99, 32]⟩ : ByteArray)) ++ me).size ≤ 2097170 := by rw [ByteArray.size_append]; omega
      have k4 : (((((ke ++ (⟨#[32]⟩ : ByteArray)) ++ stpT ti) ++ (⟨#[32, 99, 32]⟩ : ByteArray)) ++ me) ++ (⟨#[32]⟩ : ByteArray)).size ≤ 2097171 := by rw [ByteArray.size_append]; omega
      have k5 : ((((((ke ++ (⟨#[32]⟩ : ByteArray)) ++ stpT ti) ++ (⟨#[32, 99, 32]⟩ : ByteArray)) ++ me) ++ (⟨#[32]⟩ : ByteArray)) ++ decT st).size ≤ 2097186 := by rw [ByteArray.size_append]; omega
      have k6 : (((((((ke ++ (⟨#[32]⟩ : ByteArray)) ++ stpT ti) ++ (⟨#[32, 99, 32]⟩ : ByteArray)) ++ me) ++ (⟨#[32]⟩ : ByteArray)) ++ decT st) ++ (⟨#[32]⟩ : ByteArray)).size ≤ 2097187 := by rw [ByteArray.size_append]; omega
      have k7 : ((((((((ke ++ (⟨#[32]⟩ : ByteArray)) ++ stpT ti) ++ (⟨#[32, 99, 32]⟩ : ByteArray)) ++ me) ++ (⟨#[32]⟩ : ByteArray)) ++ decT st) ++ (⟨#[32]⟩ : ByteArray)) ++ la).size ≤ 3145763 := by rw [ByteArray.size_append]; omega
      have k8 : (((((((((ke ++ (⟨#[32]⟩ : ByteArray)) ++ stpT ti) ++ (⟨#[32, 99, 32]⟩ : ByteArray)) ++ me) ++ (⟨#[32]⟩ : ByteArray)) ++ decT st) ++ (⟨#[32]⟩ : ByteArray)) ++ la) ++ (⟨#[32, 45, 32]⟩ : ByteArray)).size ≤ 3145766 := by rw [ByteArray.size_append]; omega
      have k9 : ((((((((((ke ++ (⟨#[32]⟩ : ByteArray)) ++ stpT ti) ++ (⟨#[32, 99, 32]⟩ : ByteArray)) ++ me) ++ (⟨#[32]⟩ : ByteArray)) ++ decT st) ++ (⟨#[32]⟩ : ByteArray)) ++ la) ++ (⟨#[32, 45, 32]⟩ : ByteArray)) ++ decT se).size ≤ 3145781 := by rw [ByteArray.size_append]; omega
      have k10 : (((((((((((ke ++ (⟨#[32]⟩ : ByteArray)) ++ stpT ti) ++ (⟨#[32, 99, 32]⟩ : ByteArray)) ++ me) ++ (⟨#[32]⟩ : ByteArray)) ++ decT st) ++ (⟨#[32]⟩ : ByteArray)) ++ la) ++ (⟨#[32, 45, 32]⟩ : ByteArray)) ++ decT se) ++ (⟨#[32]⟩ : ByteArray)).size ≤ 3145782 := by rw [ByteArray.size_append]; omega
      have k11 : ((((((((((((ke ++ (⟨#[32]⟩ : ByteArray)) ++ stpT ti) ++ (⟨#[32, 99, 32]⟩ : ByteArray)) ++ me) ++ (⟨#[32]⟩ : ByteArray)) ++ decT st) ++ (⟨#[32]⟩ : ByteArray)) ++ la) ++ (⟨#[32, 45, 32]⟩ : ByteArray)) ++ decT se) ++ (⟨#[32]⟩ : ByteArray)) ++ decT wh).size ≤ 3145797 := by rw [ByteArray.size_append]; omega
      have k12 : (((((((((((((ke ++ (⟨#[32]⟩ : ByteArray)) ++ stpT ti) ++ (⟨#[32, 99, 32]⟩ : ByteArray)) ++ me) ++ (⟨#[32]⟩ : ByteArray)) ++ decT st) ++ (⟨#[32]⟩ : ByteArray)) ++ la) ++ (⟨#[32, 45, 32]⟩ : ByteArray)) ++ decT se) ++ (⟨#[32]⟩ : ByteArray)) ++ decT wh) ++ (⟨#[32]⟩ : ByteArray)).size ≤ 3145798 := by rw [ByteArray.size_append]; omega
      have k13 : ((((((((((((((ke ++ (⟨#[32]⟩ : ByteArray)) ++ stpT ti) ++ (⟨#[32, 99, 32]⟩ : ByteArray)) ++ me) ++ (⟨#[32]⟩ : ByteArray)) ++ decT st) ++ (⟨#[32]⟩ : ByteArray)) ++ la) ++ (⟨#[32, 45, 32]⟩ : ByteArray)) ++ decT se) ++ (⟨#[32]⟩ : ByteArray)) ++ decT wh) ++ (⟨#[32]⟩ : ByteArray)) ++ decT sz).size ≤ 3145813 := by rw [ByteArray.size_append]; omega
      go_enter Tryz.func36, Tryz.ntmps36
      go_wp2
      generalize hW : w.alloc (.cells #[.string ke, .int .i64 ti, .int .i64 si, .string me, .int .i64 st, .string la, .bool false, .int .i64 se, .int .i64 wh, .int .i64 sz] 26) = W at *
      clear hW
      obtain ⟨p0, p1, p2, p3, p4, p5, p6, p7, p8, p9⟩ := A1.c10
      have a0 := fun V => grw_some p0 V
      have a1 := fun V => grw_some p1 V
      have a2 := fun V => grw_some p2 V
      have a3 := fun V => grw_some p3 V
      have a4 := fun V => grw_some p4 V
      have a5 := fun V => grw_some p5 V
      have a6 := fun V => grw_some p6 V
      have a7 := fun V => grw_some p7 V
      have a8 := fun V => grw_some p8 V
      have a9 := fun V => grw_some p9 V
      clear p0 p1 p2 p3 p4 p5 p6 p7 p8 p9 A1
      refine wp_region_grow ?_ ?_ ?_
      · kernel_rfl
      · kernel_rfl
      · intro hne
        repeat (go_big_quiet_step (first
          | (go_at_call 64; exact grow_call (HS1.out _))
          | (go_at_call 65; exact grow_call (HD.out _ _))))
        refine wpQuiet_nil ?_
        rintro _ ⟨V, rfl⟩
        have HBV := hideB2 (below_then HB.out (grw_below W V))
        generalize grw W V = w3 at *
        go_wp2
        go_ret
        exact ⟨ret_str HR.out, HBV.out⟩
    · skip
      have HR := hideB2 (HE.out 99 114 (by unfold sdW; rw [if_neg hs]) rfl)
      have y1 : (⟨#[32, 99, 32]⟩ : ByteArray).size = 3 := rfl
      have y2 : (⟨#[32, 114, 32]⟩ : ByteArray).size = 3 := rfl
      clear HE
      have k0 : (ke ++ (⟨#[32]⟩ : ByteArray)).size ≤ 1048577 := by rw [ByteArray.size_append]; omega
      have k1 : ((ke ++ (⟨#[32]⟩ : ByteArray)) ++ stpT ti).size ≤ 1048591 := by rw [ByteArray.size_append]; omega
      have k2 : (((ke ++ (⟨#[32]⟩ : ByteArray)) ++ stpT ti) ++ (⟨#[32, 99, 32]⟩ : ByteArray)).size ≤ 1048594 := by rw [ByteArray.size_append]; omega
      have k3 : ((((ke ++ (⟨#[32]⟩ : ByteArray)) ++ stpT ti) ++ (⟨#[32, 99, 32]⟩ : ByteArray)) ++ me).size ≤ 2097170 := by rw [ByteArray.size_append]; omega
      have k4 : (((((ke ++ (⟨#[32]⟩ : ByteArray)) ++ stpT ti) ++ (⟨#[32, 99, 32]⟩ : ByteArray)) ++ me) ++ (⟨#[32]⟩ : ByteArray)).size ≤ 2097171 := by rw [ByteArray.size_append]; omega
      have k5 : ((((((ke ++ (⟨#[32]⟩ : ByteArray)) ++ stpT ti) ++ (⟨#[32, 99, 32]⟩ : ByteArray)) ++ me) ++ (⟨#[32]⟩ : ByteArray)) ++ decT st).size ≤ 2097186 := by rw [ByteArray.size_append]; omega
      have k6 : (((((((ke ++ (⟨#[32]⟩ : ByteArray)) ++ stpT ti) ++ (⟨#[32, 99, 32]⟩ : ByteArray)) ++ me) ++ (⟨#[32]⟩ : ByteArray)) ++ decT st) ++ (⟨#[32]⟩ : ByteArray)).size ≤ 2097187 := by rw [ByteArray.size_append]; omega
      have k7 : ((((((((ke ++ (⟨#[32]⟩ : ByteArray)) ++ stpT ti) ++ (⟨#[32, 99, 32]⟩ : ByteArray)) ++ me) ++ (⟨#[32]⟩ : ByteArray)) ++ decT st) ++ (⟨#[32]⟩ : ByteArray)) ++ la).size ≤ 3145763 := by rw [ByteArray.size_append]; omega
      have k8 : (((((((((ke ++ (⟨#[32]⟩ : ByteArray)) ++ stpT ti) ++ (⟨#[32, 99, 32]⟩ : ByteArray)) ++ me) ++ (⟨#[32]⟩ : ByteArray)) ++ decT st) ++ (⟨#[32]⟩ : ByteArray)) ++ la) ++ (⟨#[32, 114, 32]⟩ : ByteArray)).size ≤ 3145766 := by rw [ByteArray.size_append]; omega
      have k9 : ((((((((((ke ++ (⟨#[32]⟩ : ByteArray)) ++ stpT ti) ++ (⟨#[32, 99, 32]⟩ : ByteArray)) ++ me) ++ (⟨#[32]⟩ : ByteArray)) ++ decT st) ++ (⟨#[32]⟩ : ByteArray)) ++ la) ++ (⟨#[32, 114, 32]⟩ : ByteArray)) ++ decT se).size ≤ 3145781 := by rw [ByteArray.size_append]; omega
      have k10 : (((((((((((ke ++ (⟨#[32]⟩ : ByteArray)) ++ stpT ti) ++ (⟨#[32, 99, 32]⟩ : ByteArray)) ++ me) ++ (⟨#[32]⟩ : ByteArray)) ++ decT st) ++ (⟨#[32]⟩ : ByteArray)) ++ la) ++ (⟨#[32, 114, 32]⟩ : ByteArray)) ++ decT se) ++ (⟨#[32]⟩ : ByteArray)).size ≤ 3145782 := by rw [ByteArray.size_append]; omega
      have k11 : ((((((((((((ke ++ (⟨#[32]⟩ : ByteArray)) ++ stpT ti) ++ (⟨#[32, 99, 32]⟩ : ByteArray)) ++ me) ++ (⟨#[32]⟩ : ByteArray)) ++ decT st) ++ (⟨#[32]⟩ : ByteArray)) ++ la) ++ (⟨#[32, 114, 32]⟩ : ByteArray)) ++ decT se) ++ (⟨#[32]⟩ : ByteArray)) ++ decT wh).size ≤ 3145797 := by rw [ByteArray.size_append]; omega
      have k12 : (((((((((((((ke ++ (⟨#[32]⟩ : ByteArray)) ++ stpT ti) ++ (⟨#[32, 99, 32]⟩ : ByteArray)) ++ me) ++ (⟨#[32]⟩ : ByteArray)) ++ decT st) ++ (⟨#[32]⟩ : ByteArray)) ++ la) ++ (⟨#[32, 114, 32]⟩ : ByteArray)) ++ decT se) ++ (⟨#[32]⟩ : ByteArray)) ++ decT wh) ++ (⟨#[32]⟩ : ByteArray)).size ≤ 3145798 := by rw [ByteArray.size_append]; omega
      have k13 : ((((((((((((((ke ++ (⟨#[32]⟩ : ByteArray)) ++ stpT ti) ++ (⟨#[32, 99, 32]⟩ : ByteArray)) ++ me) ++ (⟨#[32]⟩ : ByteArray)) ++ decT st) ++ (⟨#[32]⟩ : ByteArray)) ++ la) ++ (⟨#[32, 114, 32]⟩ : ByteArray)) ++ decT se) ++ (⟨#[32]⟩ : ByteArray)) ++ decT wh) ++ (⟨#[32]⟩ : ByteArray)) ++ decT sz).size ≤ 3145813 := by rw [ByteArray.size_append]; omega
      go_enter Tryz.func36, Tryz.ntmps36
      go_wp2
      generalize hW : w.alloc (.cells #[.string ke, .int .i64 ti, .int .i64 si, .string me, .int .i64 st, .string la, .bool true, .int .i64 se, .int .i64 wh, .int .i64 sz] 26) = W at *
      clear hW
      obtain ⟨p0, p1, p2, p3, p4, p5, p6, p7, p8, p9⟩ := A1.c10
      have a0 := fun V => grw_some p0 V
      have a1 := fun V => grw_some p1 V
      have a2 := fun V => grw_some p2 V
      have a3 := fun V => grw_some p3 V
      have a4 := fun V => grw_some p4 V
      have a5 := fun V => grw_some p5 V
      have a6 := fun V => grw_some p6 V
      have a7 := fun V => grw_some p7 V
      have a8 := fun V => grw_some p8 V
      have a9 := fun V => grw_some p9 V
      clear p0 p1 p2 p3 p4 p5 p6 p7 p8 p9 A1
      refine wp_region_grow ?_ ?_ ?_
      · kernel_rfl
      · kernel_rfl
      · intro hne
        repeat (go_big_quiet_step (first
          | (go_at_call 64; exact grow_call (HS1.out _))
          | (go_at_call 65; exact grow_call (HD.out _ _))))
        refine wpQuiet_nil ?_
        rintro _ ⟨V, rfl⟩
        have HBV := hideB2 (below_then HB.out (grw_below W V))
        generalize grw W V = w3 at *
        go_wp2
        go_ret
        exact ⟨ret_str HR.out, HBV.out⟩
set_option maxRecDepth 100000 in
set_option maxHeartbeats 2000000 in
theorem sLineText_any (x : Lx) (w : World) (h1 : x.ke.size ≤ 1048576) (h2 : x.me.size ≤ 1048576) (h3 : x.la.size ≤ 1048576) :
    Calls Tryz.prog 12 #[lxV x] w fun e w' => e = .returned (.string (litB x)) ∧ Below w.heap.size w w' := by
  have HK := hideB2 (fun W => sLineOk_any x W h1 h2 h3)
  have HX := hideB2 (fun W => l9text_any x W h1 h2 h3)
  have B1 := Blk.new w (lxC x) 26
  have HB := hideB2 (below_a1 w (.cells (lxC x) 26))
  clear h1 h2 h3
  cases hq : linQ x
  · rw [litB_no hq]
    rw [hq] at HK
    clear hq
    obtain ⟨ke, ti, si, me, st, la, rv, se, wh, sz⟩ := x
    unfold lxV at *
    unfold lxC at *
    simp only at *
    go_enter Tryz.func12, Tryz.ntmps12
    go_wp2_with fail
    refine (HK.out _).mono ?_
    rintro e1 w1 ⟨rfl, hb1⟩
    have HB1 := hideB2 (below_then HB.out hb1)
    clear hb1 B1
    go_wp2
    go_ret
    exact ⟨rfl, HB1.out⟩
  · rw [litB_yes hq]
    rw [hq] at HK
    clear hq
    generalize joinS 32 (wdsX x) = R at *
    obtain ⟨ke, ti, si, me, st, la, rv, se, wh, sz⟩ := x
    unfold lxV at *
    unfold lxC at *
    simp only at *
    go_enter Tryz.func12, Tryz.ntmps12
    go_wp2_with fail
    refine (HK.out _).mono ?_
    rintro e1 w1 ⟨rfl, hb1⟩
    have B2 := B1.later hb1
    have HB1 := hideB2 (below_then HB.out hb1)
    obtain ⟨p0, p1, p2, p3, p4, p5, p6, p7, p8, p9⟩ := B2.c10
    clear hb1 B1 B2
    go_wp2_with fail
    refine (HX.out _).mono ?_
    rintro e2 w2 ⟨rfl, hb2⟩
    have HB2 := hideB2 (below_then HB1.out hb2)
    clear hb2 p0 p1 p2 p3 p4 p5 p6 p7 p8 p9
    go_wp2
    go_ret
    exact ⟨rfl, HB2.out⟩
end Go.Proofs.YtenjbgpndkodmabGreatDoor
namespace Go.Proofs.YtenjbgpndkodmabGreatDoor
set_option linter.unusedVariables false
set_option linter.unusedSimpArgs false
open Go.RowKit
theorem splN (c : UInt8) : ∀ (k : Nat) (s : ByteArray), (cntS c s ≤ k → Lib.splitB ⟨#[c]⟩ 0 k s = splS c s) ∧ (k < cntS c s → (Lib.splitB ⟨#[c]⟩ 0 k s).length = k + 1)
  | 0, s => by
    refine ⟨fun h => ?_, fun _ => rfl⟩
    unfold splS
    rw [show cntS c s = 0 by omega]
  | k + 1, s => by
    rcases idxS_cases c s with h | ⟨i, h, _⟩
    · obtain ⟨g1, g2⟩ := splS_none h
      have e := Lib.splitB_miss ⟨#[c]⟩ 0 (k + 1) s (by rw [idxS_B]; exact h)
      exact ⟨fun _ => by rw [e, g2], fun h2 => by omega⟩
    · obtain ⟨g1, g2⟩ := splS_some h
      have e := Lib.splitB_hit ⟨#[c]⟩ 0 k s i (by rw [idxS_B]; exact h)
      obtain ⟨i1, i2⟩ := splN c k (s.extract (i + 1) s.size)
      rw [show i + (⟨#[c]⟩ : ByteArray).size = i + 1 from rfl] at e
      simp only [Nat.add_zero] at e
      refine ⟨fun h2 => ?_, fun h2 => ?_⟩
      · rw [e, g2, i1 (by omega)]
      · rw [e, List.length_cons, i2 (by omega)]
theorem splN_ten (s : ByteArray) : ((splS 32 s).length = 10 → Lib.splitB ⟨#[32]⟩ 0 (min 11 (s.size + 1) - 1) s = splS 32 s) ∧ ((splS 32 s).length ≠ 10 → (Lib.splitB ⟨#[32]⟩ 0 (min 11 (s.size + 1) - 1) s).length ≠ 10) := by
  have h1 := splS_cnt 32 s
  have h2 := splS_len 32 s
  obtain ⟨i1, i2⟩ := splN 32 (min 11 (s.size + 1) - 1) s
  refine ⟨fun h => i1 (by omega), fun h => ?_⟩
  rcases Nat.lt_or_ge (min 11 (s.size + 1) - 1) (cntS 32 s) with h3 | h3
  · rw [i2 h3]; omega
  · rw [i1 h3]; exact h
set_option maxHeartbeats 1000000 in
theorem SplitN_ten (s : ByteArray) (w : World) (hs : s.size ≤ 1048576) :
    Calls Tryz.prog 45 #[.string s, .string ⟨#[32]⟩, .int .i64 11] w fun e w' =>
      ∃ (n cap : Nat), e = .returned (.slice (some ⟨w.heap.size, 0, none⟩) n cap) ∧ Below w.heap.size w w' ∧ w.heap.size < w'.heap.size ∧ n ≤ 11 ∧ ((splS 32 s).length ≠ 10 → (n : Int) ≠ 10) ∧ ((splS 32 s).length = 10 → n = 10 ∧ ∀ j, j < 10 → w'.cell? ⟨w.heap.size, j, none⟩ = some (.string (wdX (splS 32 s) j))) := by
  have c := genSplitS s 32 11 (min 11 (s.size + 1)) w (by omega) (by decide) (by decide) (by rw [if_neg (by decide)]; omega)
  obtain ⟨t1, t2⟩ := splN_ten s
  have hle : (Lib.splitB ⟨#[32]⟩ 0 (min 11 (s.size + 1) - 1) s).length ≤ 11 := by
    obtain ⟨i1, i2⟩ := splN 32 (min 11 (s.size + 1) - 1) s
    have h2 := splS_len 32 s
    rcases Nat.lt_or_ge (min 11 (s.size + 1) - 1) (cntS 32 s) with h3 | h3
    · rw [i2 h3]; omega
    · rw [i1 h3, h2]; omega
  have HC := hideB2 c
  clear c
  have HF : Hid (∀ w', w' = w.alloc (.cells (Lib.cellsOf (Lib.splitB ⟨#[32]⟩ 0 (min 11 (s.size + 1) - 1) s) (min 11 (s.size + 1))) 9) → Below w.heap.size w w' ∧ w.heap.size < w'.heap.size ∧ (Lib.splitB ⟨#[32]⟩ 0 (min 11 (s.size + 1) - 1) s).length ≤ 11 ∧ ((splS 32 s).length ≠ 10 → (((Lib.splitB ⟨#[32]⟩ 0 (min 11 (s.size + 1) - 1) s).length : Nat) : Int) ≠ 10) ∧ ((splS 32 s).length = 10 → (Lib.splitB ⟨#[32]⟩ 0 (min 11 (s.size + 1) - 1) s).length = 10 ∧ ∀ j, j < 10 → w'.cell? ⟨w.heap.size, j, none⟩ = some (.string (wdX (splS 32 s) j)))) := by
    intro w' hw'
    subst hw'
    refine ⟨below_a1 w _, by simp, hle, fun h => by have := t2 h; omega, fun h => ?_⟩
    have e := t1 h
    rw [e]
    refine ⟨h, fun j hj => ?_⟩
    have hb := Blk.new w (Lib.cellsOf (splS 32 s) (min 11 (s.size + 1))) 9
    rw [hb.cell j]
    unfold Lib.cellsOf wdX
    rw [List.getElem?_toArray, List.getElem?_append_left (by rw [List.length_map, h]; exact hj), List.getElem?_map, List.getD, List.getElem?_eq_getElem (by rw [h]; exact hj)]
    rfl
  clear t1 t2 hle
  generalize Lib.cellsOf (Lib.splitB ⟨#[32]⟩ 0 (min 11 (s.size + 1) - 1) s) (min 11 (s.size + 1)) = arr at *
  generalize (Lib.splitB ⟨#[32]⟩ 0 (min 11 (s.size + 1) - 1) s).length = ln at *
  generalize min 11 (s.size + 1) = mn at *
  go_enter Tryz.func45, Tryz.ntmps45
  go_wp2_with (go_at_call 75; refine HC.out.mono ?_; rintro e w' ⟨rfl, hw⟩; rw [hw])
  go_ret
  exact ⟨_, _, rfl, HF.out _ rfl⟩
theorem eqB_byte (s : ByteArray) (c : UInt8) : (s.toList == [c]) = eqB s ⟨#[c]⟩ := by unfold eqB; rw [ByteArray.toList_eq ⟨#[c]⟩]
theorem memS_le {l : List ByteArray} {x : ByteArray} (h : x ∈ l) : x.size ≤ sumS l := by
  induction l with
  | nil => cases h
  | cons y l ih =>
    have e : sumS (y :: l) = y.size + sumS l := rfl
    rcases List.mem_cons.1 h with rfl | h2
    · omega
    · have := ih h2; omega
theorem wdX_le {s : ByteArray} {j : Nat} (h : (splS 32 s).length = 10) (hj : j < 10) : (wdX (splS 32 s) j).size ≤ s.size := by
  have : wdX (splS 32 s) j ∈ splS 32 s := by
    unfold wdX
    rw [List.getD, List.getElem?_eq_getElem (by rw [h]; exact hj)]
    exact List.getElem_mem _
  exact Nat.le_trans (memS_le this) (splS_le 32 s).2
set_option maxRecDepth 100000 in
set_option maxHeartbeats 8000000 in
theorem lineOfWords_any (g cap : Nat) (l : List ByteArray) (w : World) (hc : ∀ j, j < 10 → w.cell? ⟨g, j, none⟩ = some (.string (wdX l j))) (hz : ∀ j, j < 10 → (wdX l j).size ≤ maxLen) (hM : MonTab w) :
    Calls Tryz.prog 46 #[.slice (some ⟨g, 0, none⟩) 10 cap] w fun e w' => e = .returned (lxV (rdX l)) ∧ Below w.heap.size w w' := by
  have hgl0 : g < w.heap.size := World.block_lt_of_cell? _ _ (hc 0 (by omega))
  have HB0 := hideB2 (below_a1 w (.cells #[.string ⟨#[]⟩, .int .i64 0, .int .i64 0, .string ⟨#[]⟩, .int .i64 0, .string ⟨#[]⟩, .bool false, .int .i64 0, .int .i64 0, .int .i64 0] 26))
  have HA0 := hideB2 (Blk.new w #[.string ⟨#[]⟩, .int .i64 0, .int .i64 0, .string ⟨#[]⟩, .int .i64 0, .string ⟨#[]⟩, .bool false, .int .i64 0, .int .i64 0, .int .i64 0] 26)
  have HC0 := hideB2 (fun j (hj : j < 10) => show (w.alloc (.cells #[.string ⟨#[]⟩, .int .i64 0, .int .i64 0, .string ⟨#[]⟩, .int .i64 0, .string ⟨#[]⟩, .bool false, .int .i64 0, .int .i64 0, .int .i64 0] 26)).cell? ⟨g, j, none⟩ = some (.string (wdX l j)) by rw [HB0.out.cell (p := ⟨g, j, none⟩) hgl0]; exact hc j hj)
  have HMT := hideB2 hM
  have HR : Hid (rdX l = ⟨wdX l 0, rsN (wdX l 1), if eqB (wdX l 2) ⟨#[111]⟩ = true then 1 else 0, wdX l 3, rdecN (wdX l 4), wdX l 5, eqB (wdX l 6) ⟨#[114]⟩, rdecN (wdX l 7), rdecN (wdX l 8), rdecN (wdX l 9)⟩) := rfl
  have hk4 := hz 4 (by omega)
  have hk7 := hz 7 (by omega)
  have hk8 := hz 8 (by omega)
  have hk9 := hz 9 (by omega)
  have t2 := eqB_byte (wdX l 2) 111
  have t6 := eqB_byte (wdX l 6) 114
  generalize rdX l = X at *
  clear hc hz hM
  have HC1 : Hid (∀ j, j < 10 → (w.alloc (.cells #[.string ⟨#[]⟩, .int .i64 0, .int .i64 0, .string ⟨#[]⟩, .int .i64 0, .string ⟨#[]⟩, .bool false, .int .i64 0, .int .i64 0, .int .i64 0] 26)).cell? ⟨g, j, none⟩ = some (.string ([wdX l 0, wdX l 1, wdX l 2, wdX l 3, wdX l 4, wdX l 5, wdX l 6, wdX l 7, wdX l 8, wdX l 9].getD j ⟨#[]⟩))) := by
    intro j hj
    rw [HC0.out j hj]
    rcases j with _ | _ | _ | _ | _ | _ | _ | _ | _ | _ | j
    all_goals first | rfl | omega
  clear HC0
  generalize wdX l 0 = k0 at *
  generalize wdX l 1 = k1 at *
  generalize wdX l 2 = k2 at *
  generalize wdX l 3 = k3 at *
  generalize wdX l 4 = k4 at *
  generalize wdX l 5 = k5 at *
  generalize wdX l 6 = k6 at *
  generalize wdX l 7 = k7 at *
  generalize wdX l 8 = k8 at *
  generalize wdX l 9 = k9 at *
  generalize eqB k6 ⟨#[114]⟩ = b6 at *
  generalize eqB k2 ⟨#[111]⟩ = b2 at *
  have hgl : g < (w.alloc (.cells #[.string ⟨#[]⟩, .int .i64 0, .int .i64 0, .string ⟨#[]⟩, .int .i64 0, .string ⟨#[]⟩, .bool false, .int .i64 0, .int .i64 0, .int .i64 0] 26)).heap.size := Nat.lt_of_lt_of_le hgl0 HB0.out.size
  have hsz : (w.alloc (.cells #[.string ⟨#[]⟩, .int .i64 0, .int .i64 0, .string ⟨#[]⟩, .int .i64 0, .string ⟨#[]⟩, .bool false, .int .i64 0, .int .i64 0, .int .i64 0] 26)).heap.size = w.heap.size + 1 := by simp
  go_enter Tryz.func46, Tryz.ntmps46
  go_wp2_with fail
  generalize hW : w.alloc (.cells #[.string ⟨#[]⟩, .int .i64 0, .int .i64 0, .string ⟨#[]⟩, .int .i64 0, .string ⟨#[]⟩, .bool false, .int .i64 0, .int .i64 0, .int .i64 0] 26) = W0 at *
  clear hW
  have hwG : w.heap.size < W0.heap.size := by omega
  clear hsz
  have HC := hideB2 (fun j hj => HC1.out j hj)
  clear HC1
  have d0 : ∀ o, (W0.alloc o).cell? ⟨g, 0, none⟩ = some (.string k0) := fun o => by rw [(below_a1 W0 o).cell (p := ⟨g, 0, none⟩) hgl]; exact HC.out 0 (by omega)
  have d3 : ∀ o, (W0.alloc o).cell? ⟨g, 3, none⟩ = some (.string k3) := fun o => by rw [(below_a1 W0 o).cell (p := ⟨g, 3, none⟩) hgl]; exact HC.out 3 (by omega)
  have d5 : ∀ o, (W0.alloc o).cell? ⟨g, 5, none⟩ = some (.string k5) := fun o => by rw [(below_a1 W0 o).cell (p := ⟨g, 5, none⟩) hgl]; exact HC.out 5 (by omega)
  have d6 : ∀ o, (W0.alloc o).cell? ⟨g, 6, none⟩ = some (.string k6) := fun o => by rw [(below_a1 W0 o).cell (p := ⟨g, 6, none⟩) hgl]; exact HC.out 6 (by omega)
  have e0 : W0.cell? ⟨g, 0, none⟩ = some (.string k0) := HC.out 0 (by omega)
  have e3 : W0.cell? ⟨g, 3, none⟩ = some (.string k3) := HC.out 3 (by omega)
  have e5 : W0.cell? ⟨g, 5, none⟩ = some (.string k5) := HC.out 5 (by omega)
  have e6 : W0.cell? ⟨g, 6, none⟩ = some (.string k6) := HC.out 6 (by omega)
  go_cut [3] (fun c wc => c = .pointer (some ⟨W0.heap.size, 0, none⟩) ∧ Below W0.heap.size W0 wc ∧ Blk wc W0.heap.size #[.string k0, .int .i64 0, .int .i64 0, .string k3, .int .i64 0, .string k5, .bool b6, .int .i64 0, .int .i64 0, .int .i64 0] 26)
  case first =>
    go_region
    all_goals
      go_wp2_with fail
      go_meet
      exact ⟨rfl, (below_a1 W0 _).drew, (Blk.new W0 _ _).drew⟩
  case rest =>
    obtain ⟨rfl, hb1, N1⟩ := hcut
    clear d0 d3 d5 d6 e0 e3 e5 e6
    have hgG : g ≠ W0.heap.size := by omega
    have hwG2 : w.heap.size ≠ W0.heap.size := by omega
    have hGA : W0.heap.size ≠ w.heap.size := by omega
    have hG0 : W0.heap.size ≤ W0.heap.size := Nat.le_refl _
    have HA1 := hideB2 (HA0.out.later hb1)
    have HBW := hideB2 (fun W (k : Below W0.heap.size W0 W) => below_then HB0.out k)
    generalize hGG : W0.heap.size = G at *
    have HGW := hideB2 (show G ≤ W0.heap.size by omega)
    clear HA0 HB0 hGG
    cases b2
    · skip
      have c2 : wc.cell? ⟨g, 2, none⟩ = some (.string k2) := by rw [(hb1).cell (p := ⟨g, 2, none⟩) hgl]; exact HC.out 2 (by omega)
      have c1 : wc.cell? ⟨g, 1, none⟩ = some (.string k1) := by rw [(hb1).cell (p := ⟨g, 1, none⟩) hgl]; exact HC.out 1 (by omega)
      have HN2 := hideB2 N1
      have HL2 : Hid (Below G W0 wc) := hideB2 hb1
      clear N1 hb1
      go_wp2_with fail
      refine (ReadStamp_all k1 _ (HMT.out.below (HBW.out _ HL2.out))).mono ?_
      rintro ee v2 ⟨rfl, hv⟩
      clear c2 c1
      have Q2 := HN2.out.later hv
      have hq2 : Below G W0 v2 := HL2.out.trans (hv.mono (Nat.le_trans HGW.out HL2.out.size))
      have HAq2 := hideB2 (HA1.out.later hv)
      clear hv
      have x1 : v2.cell? ⟨G, 1, none⟩ = some (.int .i64 0) := Q2.cell 1
      have f1 := Q2.free 1
      generalize hy2 : rsN k1 = y2 at *
      have HY2 := hideB2 hy2
      clear hy2
      have R2 : Blk (v2.setCell ⟨G, 1, none⟩ (.int .i64 y2)) G #[.string k0, .int .i64 y2, .int .i64 0, .string k3, .int .i64 0, .string k5, .bool b6, .int .i64 0, .int .i64 0, .int .i64 0] 26 := Q2.set 1 _
      have hr2 : Below G W0 (v2.setCell ⟨G, 1, none⟩ (.int .i64 y2)) := hq2.setCell (p := ⟨G, 1, none⟩) hG0 _
      have HAr2 := hideB2 (HAq2.out.other (b' := G) hGA 1 (.int .i64 y2))
      clear Q2 hq2 HN2 HL2 HAq2 HA1
      have c4 : (v2.setCell ⟨G, 1, none⟩ (.int .i64 y2)).cell? ⟨g, 4, none⟩ = some (.string k4) := by rw [(hr2).cell (p := ⟨g, 4, none⟩) hgl]; exact HC.out 4 (by omega)
      have HN3 := hideB2 R2
      have HL3 : Hid (Below G W0 (v2.setCell ⟨G, 1, none⟩ (.int .i64 y2))) := hideB2 hr2
      clear R2 hr2
      go_wp2_with fail
      refine (ReadDec_any k4 _ hk4).mono ?_
      rintro ee v3 ⟨rfl, hv⟩
      subst hv
      clear x1 f1 c4
      generalize hU3 : (v2.setCell ⟨G, 1, none⟩ (.int .i64 y2)) = U3 at *
      clear hU3
      have Q3 := HN3.out
      have hq3 := HL3.out
      have HAq3 := HAr2
      have x4 : U3.cell? ⟨G, 4, none⟩ = some (.int .i64 0) := Q3.cell 4
      have f4 := Q3.free 4
      generalize hy3 : rdecN k4 = y3 at *
      have HY3 := hideB2 hy3
      clear hy3
      have R3 : Blk (U3.setCell ⟨G, 4, none⟩ (.int .i64 y3)) G #[.string k0, .int .i64 y2, .int .i64 0, .string k3, .int .i64 y3, .string k5, .bool b6, .int .i64 0, .int .i64 0, .int .i64 0] 26 := Q3.set 4 _
      have hr3 : Below G W0 (U3.setCell ⟨G, 4, none⟩ (.int .i64 y3)) := hq3.setCell (p := ⟨G, 4, none⟩) hG0 _
      have HAr3 := hideB2 (HAq3.out.other (b' := G) hGA 4 (.int .i64 y3))
      clear Q3 hq3 HN3 HL3 HAq3 
      have c7 : (U3.setCell ⟨G, 4, none⟩ (.int .i64 y3)).cell? ⟨g, 7, none⟩ = some (.string k7) := by rw [(hr3).cell (p := ⟨g, 7, none⟩) hgl]; exact HC.out 7 (by omega)
      have HN4 := hideB2 R3
      have HL4 : Hid (Below G W0 (U3.setCell ⟨G, 4, none⟩ (.int .i64 y3))) := hideB2 hr3
      clear R3 hr3
      go_wp2_with fail
      refine (ReadDec_any k7 _ hk7).mono ?_
      rintro ee v4 ⟨rfl, hv⟩
      subst hv
      clear x4 f4 c7
      generalize hU4 : (U3.setCell ⟨G, 4, none⟩ (.int .i64 y3)) = U4 at *
      clear hU4
      have Q4 := HN4.out
      have hq4 := HL4.out
      have HAq4 := HAr3
      have x7 : U4.cell? ⟨G, 7, none⟩ = some (.int .i64 0) := Q4.cell 7
      have f7 := Q4.free 7
      generalize hy4 : rdecN k7 = y4 at *
      have HY4 := hideB2 hy4
      clear hy4
      have R4 : Blk (U4.setCell ⟨G, 7, none⟩ (.int .i64 y4)) G #[.string k0, .int .i64 y2, .int .i64 0, .string k3, .int .i64 y3, .string k5, .bool b6, .int .i64 y4, .int .i64 0, .int .i64 0] 26 := Q4.set 7 _
      have hr4 : Below G W0 (U4.setCell ⟨G, 7, none⟩ (.int .i64 y4)) := hq4.setCell (p := ⟨G, 7, none⟩) hG0 _
      have HAr4 := hideB2 (HAq4.out.other (b' := G) hGA 7 (.int .i64 y4))
      clear Q4 hq4 HN4 HL4 HAq4 
      have c8 : (U4.setCell ⟨G, 7, none⟩ (.int .i64 y4)).cell? ⟨g, 8, none⟩ = some (.string k8) := by rw [(hr4).cell (p := ⟨g, 8, none⟩) hgl]; exact HC.out 8 (by omega)
      have HN5 := hideB2 R4
      have HL5 : Hid (Below G W0 (U4.setCell ⟨G, 7, none⟩ (.int .i64 y4))) := hideB2 hr4
      clear R4 hr4
      go_wp2_with fail
      refine (ReadDec_any k8 _ hk8).mono ?_
      rintro ee v5 ⟨rfl, hv⟩
      subst hv
      clear x7 f7 c8
      generalize hU5 : (U4.setCell ⟨G, 7, none⟩ (.int .i64 y4)) = U5 at *
      clear hU5
      have Q5 := HN5.out
      have hq5 := HL5.out
      have HAq5 := HAr4
      have x8 : U5.cell? ⟨G, 8, none⟩ = some (.int .i64 0) := Q5.cell 8
      have f8 := Q5.free 8
      generalize hy5 : rdecN k8 = y5 at *
      have HY5 := hideB2 hy5
      clear hy5
      have R5 : Blk (U5.setCell ⟨G, 8, none⟩ (.int .i64 y5)) G #[.string k0, .int .i64 y2, .int .i64 0, .string k3, .int .i64 y3, .string k5, .bool b6, .int .i64 y4, .int .i64 y5, .int .i64 0] 26 := Q5.set 8 _
      have hr5 : Below G W0 (U5.setCell ⟨G, 8, none⟩ (.int .i64 y5)) := hq5.setCell (p := ⟨G, 8, none⟩) hG0 _
      have HAr5 := hideB2 (HAq5.out.other (b' := G) hGA 8 (.int .i64 y5))
      clear Q5 hq5 HN5 HL5 HAq5 
      have c9 : (U5.setCell ⟨G, 8, none⟩ (.int .i64 y5)).cell? ⟨g, 9, none⟩ = some (.string k9) := by rw [(hr5).cell (p := ⟨g, 9, none⟩) hgl]; exact HC.out 9 (by omega)
      have HN6 := hideB2 R5
      have HL6 : Hid (Below G W0 (U5.setCell ⟨G, 8, none⟩ (.int .i64 y5))) := hideB2 hr5
      clear R5 hr5
      go_wp2_with fail
      refine (ReadDec_any k9 _ hk9).mono ?_
      rintro ee v6 ⟨rfl, hv⟩
      subst hv
      clear x8 f8 c9
      generalize hU6 : (U5.setCell ⟨G, 8, none⟩ (.int .i64 y5)) = U6 at *
      clear hU6
      have Q6 := HN6.out
      have hq6 := HL6.out
      have HAq6 := HAr5
      have x9 : U6.cell? ⟨G, 9, none⟩ = some (.int .i64 0) := Q6.cell 9
      have f9 := Q6.free 9
      generalize hy6 : rdecN k9 = y6 at *
      have HY6 := hideB2 hy6
      clear hy6
      have R6 : Blk (U6.setCell ⟨G, 9, none⟩ (.int .i64 y6)) G #[.string k0, .int .i64 y2, .int .i64 0, .string k3, .int .i64 y3, .string k5, .bool b6, .int .i64 y4, .int .i64 y5, .int .i64 y6] 26 := Q6.set 9 _
      have hr6 : Below G W0 (U6.setCell ⟨G, 9, none⟩ (.int .i64 y6)) := hq6.setCell (p := ⟨G, 9, none⟩) hG0 _
      have HAr6 := hideB2 (HAq6.out.other (b' := G) hGA 9 (.int .i64 y6))
      clear Q6 hq6 HN6 HL6 HAq6 
      have HX : Hid (X = ⟨k0, y2, 0, k3, y3, k5, b6, y4, y5, y6⟩) := HR.out
      clear HR
      skip
      obtain ⟨x0, x1, x2, x3, x4, x5, x6, x7, x8, x9⟩ := R6.c10
      have HAZ := hideB2 HAr6.out
      have HBZ := hideB2 (HBW.out _ hr6)
      obtain ⟨r0, r1, r2, r3, r4, r5, r6, r7, r8, r9⟩ := HAZ.out.c10
      obtain ⟨g0, g1, g2, g3, g4, g5, g6, g7, g8, g9⟩ := HAZ.out.f10
      clear R6 hr6
      go_wp2
      refine bodyPost_ret (results_cellS rfl _ _ _ rfl (HAZ.out.put10 _ _ _ _ _ _ _ _ _ _) Tryz.underlying26 Tryz.infoX2) rfl ⟨?_, ?_⟩
      · rw [HX.out]; rfl
      · exact below_put10 HBZ.out (Nat.le_refl _) _ _ _ _ _ _ _ _ _ _
    · skip
      have c2 : wc.cell? ⟨g, 2, none⟩ = some (.string k2) := by rw [(hb1).cell (p := ⟨g, 2, none⟩) hgl]; exact HC.out 2 (by omega)
      have x2 : wc.cell? ⟨G, 2, none⟩ = some (.int .i64 0) := N1.cell 2
      have f2 := N1.free 2
      have M1 : Blk (wc.setCell ⟨G, 2, none⟩ (.int .i64 1)) G #[.string k0, .int .i64 0, .int .i64 1, .string k3, .int .i64 0, .string k5, .bool b6, .int .i64 0, .int .i64 0, .int .i64 0] 26 := N1.set 2 _
      have hm1 : Below G W0 (wc.setCell ⟨G, 2, none⟩ (.int .i64 1)) := hb1.setCell (p := ⟨G, 2, none⟩) hG0 _
      have HAm1 := hideB2 (HA1.out.other (b' := G) hGA 2 (.int .i64 1))
      clear N1 hb1
      have c1 : (wc.setCell ⟨G, 2, none⟩ (.int .i64 1)).cell? ⟨g, 1, none⟩ = some (.string k1) := by rw [(hm1).cell (p := ⟨g, 1, none⟩) hgl]; exact HC.out 1 (by omega)
      have HN2 := hideB2 M1
      have HL2 : Hid (Below G W0 (wc.setCell ⟨G, 2, none⟩ (.int .i64 1))) := hideB2 hm1
      clear M1 hm1
      go_wp2_with fail
      refine (ReadStamp_all k1 _ (HMT.out.below (HBW.out _ HL2.out))).mono ?_
      rintro ee v2 ⟨rfl, hv⟩
      clear c2 x2 f2 c1
      have Q2 := HN2.out.later hv
      have hq2 : Below G W0 v2 := HL2.out.trans (hv.mono (Nat.le_trans HGW.out HL2.out.size))
      have HAq2 := hideB2 (HAm1.out.later hv)
      clear hv
      have x1 : v2.cell? ⟨G, 1, none⟩ = some (.int .i64 0) := Q2.cell 1
      have f1 := Q2.free 1
      generalize hy2 : rsN k1 = y2 at *
      have HY2 := hideB2 hy2
      clear hy2
      have R2 : Blk (v2.setCell ⟨G, 1, none⟩ (.int .i64 y2)) G #[.string k0, .int .i64 y2, .int .i64 1, .string k3, .int .i64 0, .string k5, .bool b6, .int .i64 0, .int .i64 0, .int .i64 0] 26 := Q2.set 1 _
      have hr2 : Below G W0 (v2.setCell ⟨G, 1, none⟩ (.int .i64 y2)) := hq2.setCell (p := ⟨G, 1, none⟩) hG0 _
      have HAr2 := hideB2 (HAq2.out.other (b' := G) hGA 1 (.int .i64 y2))
      clear Q2 hq2 HN2 HL2 HAq2 HAm1
      have c4 : (v2.setCell ⟨G, 1, none⟩ (.int .i64 y2)).cell? ⟨g, 4, none⟩ = some (.string k4) := by rw [(hr2).cell (p := ⟨g, 4, none⟩) hgl]; exact HC.out 4 (by omega)
      have HN3 := hideB2 R2
      have HL3 : Hid (Below G W0 (v2.setCell ⟨G, 1, none⟩ (.int .i64 y2))) := hideB2 hr2
      clear R2 hr2
      go_wp2_with fail
      refine (ReadDec_any k4 _ hk4).mono ?_
      rintro ee v3 ⟨rfl, hv⟩
      subst hv
      clear x1 f1 c4
      generalize hU3 : (v2.setCell ⟨G, 1, none⟩ (.int .i64 y2)) = U3 at *
      clear hU3
      have Q3 := HN3.out
      have hq3 := HL3.out
      have HAq3 := HAr2
      have x4 : U3.cell? ⟨G, 4, none⟩ = some (.int .i64 0) := Q3.cell 4
      have f4 := Q3.free 4
      generalize hy3 : rdecN k4 = y3 at *
      have HY3 := hideB2 hy3
      clear hy3
      have R3 : Blk (U3.setCell ⟨G, 4, none⟩ (.int .i64 y3)) G #[.string k0, .int .i64 y2, .int .i64 1, .string k3, .int .i64 y3, .string k5, .bool b6, .int .i64 0, .int .i64 0, .int .i64 0] 26 := Q3.set 4 _
      have hr3 : Below G W0 (U3.setCell ⟨G, 4, none⟩ (.int .i64 y3)) := hq3.setCell (p := ⟨G, 4, none⟩) hG0 _
      have HAr3 := hideB2 (HAq3.out.other (b' := G) hGA 4 (.int .i64 y3))
      clear Q3 hq3 HN3 HL3 HAq3 
      have c7 : (U3.setCell ⟨G, 4, none⟩ (.int .i64 y3)).cell? ⟨g, 7, none⟩ = some (.string k7) := by rw [(hr3).cell (p := ⟨g, 7, none⟩) hgl]; exact HC.out 7 (by omega)
      have HN4 := hideB2 R3
      have HL4 : Hid (Below G W0 (U3.setCell ⟨G, 4, none⟩ (.int .i64 y3))) := hideB2 hr3
      clear R3 hr3
      go_wp2_with fail
      refine (ReadDec_any k7 _ hk7).mono ?_
      rintro ee v4 ⟨rfl, hv⟩
      subst hv
      clear x4 f4 c7
      generalize hU4 : (U3.setCell ⟨G, 4, none⟩ (.int .i64 y3)) = U4 at *
      clear hU4
      have Q4 := HN4.out
      have hq4 := HL4.out
      have HAq4 := HAr3
      have x7 : U4.cell? ⟨G, 7, none⟩ = some (.int .i64 0) := Q4.cell 7
      have f7 := Q4.free 7
      generalize hy4 : rdecN k7 = y4 at *
      have HY4 := hideB2 hy4
      clear hy4
      have R4 : Blk (U4.setCell ⟨G, 7, none⟩ (.int .i64 y4)) G #[.string k0, .int .i64 y2, .int .i64 1, .string k3, .int .i64 y3, .string k5, .bool b6, .int .i64 y4, .int .i64 0, .int .i64 0] 26 := Q4.set 7 _
      have hr4 : Below G W0 (U4.setCell ⟨G, 7, none⟩ (.int .i64 y4)) := hq4.setCell (p := ⟨G, 7, none⟩) hG0 _
      have HAr4 := hideB2 (HAq4.out.other (b' := G) hGA 7 (.int .i64 y4))
      clear Q4 hq4 HN4 HL4 HAq4 
      have c8 : (U4.setCell ⟨G, 7, none⟩ (.int .i64 y4)).cell? ⟨g, 8, none⟩ = some (.string k8) := by rw [(hr4).cell (p := ⟨g, 8, none⟩) hgl]; exact HC.out 8 (by omega)
      have HN5 := hideB2 R4
      have HL5 : Hid (Below G W0 (U4.setCell ⟨G, 7, none⟩ (.int .i64 y4))) := hideB2 hr4
      clear R4 hr4
      go_wp2_with fail
      refine (ReadDec_any k8 _ hk8).mono ?_
      rintro ee v5 ⟨rfl, hv⟩
      subst hv
      clear x7 f7 c8
      generalize hU5 : (U4.setCell ⟨G, 7, none⟩ (.int .i64 y4)) = U5 at *
      clear hU5
      have Q5 := HN5.out
      have hq5 := HL5.out
      have HAq5 := HAr4
      have x8 : U5.cell? ⟨G, 8, none⟩ = some (.int .i64 0) := Q5.cell 8
      have f8 := Q5.free 8
      generalize hy5 : rdecN k8 = y5 at *
      have HY5 := hideB2 hy5
      clear hy5
      have R5 : Blk (U5.setCell ⟨G, 8, none⟩ (.int .i64 y5)) G #[.string k0, .int .i64 y2, .int .i64 1, .string k3, .int .i64 y3, .string k5, .bool b6, .int .i64 y4, .int .i64 y5, .int .i64 0] 26 := Q5.set 8 _
      have hr5 : Below G W0 (U5.setCell ⟨G, 8, none⟩ (.int .i64 y5)) := hq5.setCell (p := ⟨G, 8, none⟩) hG0 _
      have HAr5 := hideB2 (HAq5.out.other (b' := G) hGA 8 (.int .i64 y5))
      clear Q5 hq5 HN5 HL5 HAq5 
      have c9 : (U5.setCell ⟨G, 8, none⟩ (.int .i64 y5)).cell? ⟨g, 9, none⟩ = some (.string k9) := by rw [(hr5).cell (p := ⟨g, 9, none⟩) hgl]; exact HC.out 9 (by omega)
      have HN6 := hideB2 R5
      have HL6 : Hid (Below G W0 (U5.setCell ⟨G, 8, none⟩ (.int .i64 y5))) := hideB2 hr5
      clear R5 hr5
      go_wp2_with fail
      refine (ReadDec_any k9 _ hk9).mono ?_
      rintro ee v6 ⟨rfl, hv⟩
      subst hv
      clear x8 f8 c9
      generalize hU6 : (U5.setCell ⟨G, 8, none⟩ (.int .i64 y5)) = U6 at *
      clear hU6
      have Q6 := HN6.out
      have hq6 := HL6.out
      have HAq6 := HAr5
      have x9 : U6.cell? ⟨G, 9, none⟩ = some (.int .i64 0) := Q6.cell 9
      have f9 := Q6.free 9
      generalize hy6 : rdecN k9 = y6 at *
      have HY6 := hideB2 hy6
      clear hy6
      have R6 : Blk (U6.setCell ⟨G, 9, none⟩ (.int .i64 y6)) G #[.string k0, .int .i64 y2, .int .i64 1, .string k3, .int .i64 y3, .string k5, .bool b6, .int .i64 y4, .int .i64 y5, .int .i64 y6] 26 := Q6.set 9 _
      have hr6 : Below G W0 (U6.setCell ⟨G, 9, none⟩ (.int .i64 y6)) := hq6.setCell (p := ⟨G, 9, none⟩) hG0 _
      have HAr6 := hideB2 (HAq6.out.other (b' := G) hGA 9 (.int .i64 y6))
      clear Q6 hq6 HN6 HL6 HAq6 
      have HX : Hid (X = ⟨k0, y2, 1, k3, y3, k5, b6, y4, y5, y6⟩) := HR.out
      clear HR
      skip
      obtain ⟨x0, x1, x2, x3, x4, x5, x6, x7, x8, x9⟩ := R6.c10
      have HAZ := hideB2 HAr6.out
      have HBZ := hideB2 (HBW.out _ hr6)
      obtain ⟨r0, r1, r2, r3, r4, r5, r6, r7, r8, r9⟩ := HAZ.out.c10
      obtain ⟨g0, g1, g2, g3, g4, g5, g6, g7, g8, g9⟩ := HAZ.out.f10
      clear R6 hr6
      go_wp2
      refine bodyPost_ret (results_cellS rfl _ _ _ rfl (HAZ.out.put10 _ _ _ _ _ _ _ _ _ _) Tryz.underlying26 Tryz.infoX2) rfl ⟨?_, ?_⟩
      · rw [HX.out]; rfl
      · exact below_put10 HBZ.out (Nat.le_refl _) _ _ _ _ _ _ _ _ _ _
end Go.Proofs.YtenjbgpndkodmabGreatDoor
