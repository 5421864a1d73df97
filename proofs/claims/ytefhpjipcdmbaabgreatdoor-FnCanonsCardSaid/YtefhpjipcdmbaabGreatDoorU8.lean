/-
  Chapter 7: an address's text, and is it one; the specification's side.
-/
import Derived.Test.YtefhpjipcdmbaabGreatDoorU7
import Derived.Test.YtefhpjipcdmbaabGreatDoorU6b
namespace Go.Proofs.YtefhpjipcdmbaabGreatDoor
set_option linter.unusedVariables false
set_option linter.unusedSimpArgs false
open Go.RowKit
set_option maxHeartbeats 1000000 in
theorem l7port_any (ho pa qu : ByteArray) (po : Int) (hq : Bool) (w : World) :
    Calls Tryz.prog 70 #[.agg #[.string ho, .int .i64 po, .string pa, .string qu, .bool hq]] w fun e w' => e = .returned (.string (portB po)) ∧ Below w.heap.size w w' := by
  have HB := hideB2 (below_a1 w (.cells #[.string ho, .int .i64 po, .string pa, .string qu, .bool hq] 23))
  cases h80 : (po == 80)
  · rw [portB_no h80]
    have HD := hideB2 (fun W => sDecText_all po W)
    have hdz := decT_size po
    generalize decT po = d at *
    go_enter Tryz.func70, Tryz.ntmps70
    go_wp2_with (go_at_call 62; refine (HD.out _).mono ?_; rintro e w1 ⟨rfl, hb1⟩)
    go_ret
    exact ⟨rfl, below_then HB.out hb1⟩
  · obtain rfl := beq_iff_eq.1 h80
    go_enter Tryz.func70, Tryz.ntmps70
    go_wp2
    go_ret
    exact ⟨rfl, HB.out⟩
set_option maxHeartbeats 1000000 in
theorem l7query_any (ho pa qu : ByteArray) (po : Int) (hq : Bool) (w : World) (hqu : qu.size ≤ 1048576) :
    Calls Tryz.prog 71 #[.agg #[.string ho, .int .i64 po, .string pa, .string qu, .bool hq]] w fun e w' => e = .returned (.string (qryB qu hq)) ∧ Below w.heap.size w w' := by
  have HB := hideB2 (below_a1 w (.cells #[.string ho, .int .i64 po, .string pa, .string qu, .bool hq] 23))
  cases hq
  · go_enter Tryz.func71, Tryz.ntmps71
    go_wp2
    go_ret
    exact ⟨rfl, HB.out⟩
  · go_enter Tryz.func71, Tryz.ntmps71
    go_wp2
    go_ret
    exact ⟨rfl, HB.out⟩
set_option maxRecDepth 100000 in
set_option maxHeartbeats 2000000 in
theorem l7text_any (ho pa qu : ByteArray) (po : Int) (hq : Bool) (w : World) (hho : ho.size ≤ 1048576) (hpa : pa.size ≤ 1048576) (hqu : qu.size ≤ 1048576) :
    Calls Tryz.prog 56 #[.agg #[.string ho, .int .i64 po, .string pa, .string qu, .bool hq]] w fun e w' => e = .returned (.string (utxt ho pa qu po hq)) ∧ Below w.heap.size w w' := by
  have HB := hideB2 (below_a1 w (.cells #[.string ho, .int .i64 po, .string pa, .string qu, .bool hq] 23))
  have A1 := Blk.new w #[.string ho, .int .i64 po, .string pa, .string qu, .bool hq] 23
  have hz1 := portB_size po
  have hz2 := qryB_size qu hq
  have HP := hideB2 (fun W => l7port_any ho pa qu po hq W)
  have HQ := hideB2 (fun W => l7query_any ho pa qu po hq W hqu)
  have HE := hideB2 (show utxt ho pa qu po hq = (((⟨#[104, 116, 116, 112, 58, 47, 47]⟩ ++ ho) ++ portB po) ++ pa) ++ qryB qu hq from rfl)
  generalize utxt ho pa qu po hq = R at *
  generalize portB po = P at *
  generalize qryB qu hq = Q at *
  have hs0 : (⟨#[104, 116, 116, 112, 58, 47, 47]⟩ : ByteArray).size = 7 := rfl
  have hs1 : ((⟨#[104, 116, 116, 112, 58, 47, 47]⟩ : ByteArray) ++ ho).size ≤ 1048583 := by rw [ByteArray.size_append]; omega
  have hs2 : (((⟨#[104, 116, 116, 112, 58, 47, 47]⟩ : ByteArray) ++ ho) ++ P).size ≤ 1048600 := by rw [ByteArray.size_append]; omega
  have hs3 : ((((⟨#[104, 116, 116, 112, 58, 47, 47]⟩ : ByteArray) ++ ho) ++ P) ++ pa).size ≤ 2097180 := by rw [ByteArray.size_append]; omega
  go_enter Tryz.func56, Tryz.ntmps56
  go_wp2
  generalize hW : w.alloc (.cells #[.string ho, .int .i64 po, .string pa, .string qu, .bool hq] 23) = W at *
  clear hW
  obtain ⟨p0, p1, p2, p3, p4⟩ := A1.u5
  have z0 := fun V => grw_some p0 V
  have z1 := fun V => grw_some p1 V
  have z2 := fun V => grw_some p2 V
  have z3 := fun V => grw_some p3 V
  have z4 := fun V => grw_some p4 V
  clear p0 p1 p2 p3 p4 A1
  refine wp_region_grow ?_ ?_ ?_
  · kernel_rfl
  · kernel_rfl
  · intro hne
    repeat (go_big_quiet_step ((first | (go_at_call 70; exact grow_call (HP.out _)) | (go_at_call 71; exact grow_call (HQ.out _)))))
    refine wpQuiet_nil ?_
    rintro _ ⟨V, rfl⟩
    have HBV := hideB2 (below_then HB.out (grw_below W V))
    generalize grw W V = w3 at *
    go_wp2
    go_ret
    exact ⟨ret_str HE.out, HBV.out⟩
/-- What of an address's text may be seen. -/
theorem digits_vis {n : Int} (h0 : 0 ≤ n) (h1 : n ≤ 65535) : allB vis8 (decT n) = true := by
  unfold decT
  rw [if_pos ⟨h0, by omega⟩]
  unfold allB decB
  rw [List.all_eq_true]
  intro b hb
  have hd := allDig_dec n.toNat
  unfold allDig at hd
  rw [List.all_eq_true] at hd
  have h2 := digP_iff.1 (hd b hb)
  unfold vis8 visP
  rw [decide_eq_true (show (33 : Int) ≤ (b.toNat : Int) by omega), decide_eq_true (show (b.toNat : Int) ≤ 126 by omega)]
  rfl
theorem clean_vis {s : ByteArray} (h0 : eqB s ⟨#[]⟩ = false) (h : eqB (clnB s) s = true) : allB vis8 s = true := by
  have h1 := eqB_iff.1 h
  cases hp : pthQ s
  · rw [clnB_no hp] at h1
    rw [← h1] at h0
    rw [eqB_self] at h0; cases h0
  · unfold pthQ at hp
    rw [Bool.and_eq_true, Bool.and_eq_true] at hp
    exact (targQ_iff.1 hp.1.1).2.2
theorem eqB_upt (q : ByteArray) : eqB (uptS 35 q) q = decide (idxS 35 q < 0) := by
  rcases idxS_cases 35 q with h | ⟨i, h, hi⟩
  · rw [uptS_none h, eqB_self, h]; rfl
  · rw [uptS_some h, h, decide_eq_false (by omega)]
    cases he : eqB (q.extract 0 i) q with
    | false => rfl
    | true =>
      have := congrArg ByteArray.size (eqB_iff.1 he)
      rw [ByteArray.size_extract] at this
      omega
theorem urlQ_split (ho pa qu : ByteArray) (po : Int) (hq : Bool) (h1 : hostQ ho = true) (h2 : ¬ po < 1) (h3 : ¬ (65535 : Int) < po) (h4 : eqB pa ⟨#[]⟩ = false) (h5 : eqB (clnB pa) pa = true) (h6 : (hq || eqB qu ⟨#[]⟩) = true) :
    urlQ ho pa qu po hq = (decide (qu.size ≤ 200) && ((eqB qu ⟨#[]⟩ || allB vis8 qu) && (decide (idxS 35 qu < 0) && decide ((utxt ho pa qu po hq).size ≤ 200)))) := by
  have v1 : allB vis8 ho = true := by
    unfold hostQ at h1
    rw [Bool.and_eq_true, Bool.and_eq_true] at h1
    exact host_vis h1.1.2
  have v2 : allB vis8 (portB po) = true := by
    unfold portB
    split
    · rfl
    · rw [all_app, digits_vis (by omega) (by omega)]; rfl
  have v3 := clean_vis h4 h5
  have v4 : allB vis8 (utxt ho pa qu po hq) = allB vis8 (qryB qu hq) := by
    unfold utxt
    rw [all_app, all_app, all_app, all_app, v1, v2, v3]
    rfl
  have v5 : allB vis8 (qryB qu hq) = (eqB qu ⟨#[]⟩ || allB vis8 qu) := by
    unfold qryB
    cases hq
    · rw [Bool.false_or] at h6
      rw [h6]; rfl
    · rw [if_pos rfl, all_app]
      cases he : eqB qu ⟨#[]⟩
      · rfl
      · rw [eqB_iff.1 he]; rfl
  have hz := utxt_size ho pa qu po hq
  have hw : withinB po 1 65535 = true := within_iff.2 ⟨by omega, by omega⟩
  unfold urlQ queQ
  rw [h1, hw, h4, h5, h6]
  unfold targQ
  rw [v4, v5, decide_eq_true (show 1 ≤ ((utxt ho pa qu po hq).size : Int) by omega)]
  simp only [Bool.true_and, Bool.not_false]
  generalize (eqB qu ⟨#[]⟩ || allB vis8 qu) = x
  by_cases h200 : (utxt ho pa qu po hq).size ≤ 200
  · have hq2 : qu.size ≤ 200 := by
      cases hq
      · rw [Bool.false_or] at h6
        rw [eqB_iff.1 h6]; show (0 : Nat) ≤ 200; omega
      · have : (qryB qu true).size = 1 + qu.size := by unfold qryB; rw [if_pos rfl, ByteArray.size_append]; rfl
        omega
    rw [decide_eq_true h200, decide_eq_true hq2, decide_eq_true (show ((utxt ho pa qu po hq).size : Int) ≤ 200 by omega)]
    cases x <;> simp
  · rw [decide_eq_false h200, decide_eq_false (show ¬ ((utxt ho pa qu po hq).size : Int) ≤ 200 by omega)]
    simp
set_option maxRecDepth 100000 in
set_option maxHeartbeats 8000000 in
theorem sUrlOk_any (ho pa qu : ByteArray) (po : Int) (hq : Bool) (w : World) (hho : ho.size ≤ 1048576) (hpa : pa.size ≤ 1048576) (hqu : qu.size ≤ 1048576) :
    Calls Tryz.prog 22 #[.agg #[.string ho, .int .i64 po, .string pa, .string qu, .bool hq]] w fun e w' => e = .returned (.bool (urlQ ho pa qu po hq)) ∧ Below w.heap.size w w' := by
  have HB := hideB2 (below_a1 w (.cells #[.string ho, .int .i64 po, .string pa, .string qu, .bool hq] 23))
  have A1 := hideB2 (Blk.new w #[.string ho, .int .i64 po, .string pa, .string qu, .bool hq] 23)
  have HH := hideB2 (fun W => l7host_any ho W (by unfold maxLen; omega))
  have HCP := hideB2 (fun W => sCleanPath_any pa W (by unfold maxLen; omega))
  have HV := hideB2 (fun W => l6visible_any qu W (by unfold maxLen; omega))
  have HU := hideB2 (fun W => l6uptoS_any qu 35 W (by unfold maxLen; omega))
  change Hid (∀ W, Calls _ _ #[_, .int .u8 35] W _) at HU
  have HX := hideB2 (fun W => l7text_any ho pa qu po hq W hho hpa hqu)
  cases h1 : hostQ ho
  · have HE := hideB2 (show urlQ ho pa qu po hq = false by unfold urlQ; rw [h1]; simp)
    rw [h1] at HH
    clear h1
    go_enter Tryz.func22, Tryz.ntmps22
    go_wp2
    generalize hW0 : w.alloc (.cells #[.string ho, .int .i64 po, .string pa, .string qu, .bool hq] 23) = W at *
    clear hW0
    obtain ⟨p0, p1, p2, p3, p4⟩ := A1.out.u5
    have z0 := fun V => grw_some p0 V
    have z1 := fun V => grw_some p1 V
    have z2 := fun V => grw_some p2 V
    have z3 := fun V => grw_some p3 V
    have z4 := fun V => grw_some p4 V
    clear p0 p1 p2 p3 p4
    refine wp_region_grow ?_ ?_ ?_
    · kernel_rfl
    · kernel_rfl
    · intro hne0
      repeat (go_big_quiet_step ((first | (go_at_call 55; exact grow_call (HH.out _)) | (go_at_call 15; exact grow_call (HCP.out _)))))
      refine wpQuiet_nil ?_
      rintro _ ⟨V, rfl⟩
      have HBV := hideB2 (below_then HB.out (grw_below W V))
      generalize grw W V = w3 at *
      go_wp2
      go_ret
      exact ⟨ret_bool HE.out, HBV.out⟩
  · by_cases h2 : po < 1
    · have d2 := decide_eq_true h2
      have HE := hideB2 (show urlQ ho pa qu po hq = false by unfold urlQ withinB; rw [decide_eq_false (show ¬ 1 ≤ po by omega)]; simp)
      rw [h1] at HH
      clear h1
      go_enter Tryz.func22, Tryz.ntmps22
      go_wp2
      generalize hW0 : w.alloc (.cells #[.string ho, .int .i64 po, .string pa, .string qu, .bool hq] 23) = W at *
      clear hW0
      obtain ⟨p0, p1, p2, p3, p4⟩ := A1.out.u5
      have z0 := fun V => grw_some p0 V
      have z1 := fun V => grw_some p1 V
      have z2 := fun V => grw_some p2 V
      have z3 := fun V => grw_some p3 V
      have z4 := fun V => grw_some p4 V
      clear p0 p1 p2 p3 p4
      refine wp_region_grow ?_ ?_ ?_
      · kernel_rfl
      · kernel_rfl
      · intro hne0
        repeat (go_big_quiet_step ((first | (go_at_call 55; exact grow_call (HH.out _)) | (go_at_call 15; exact grow_call (HCP.out _)))))
        refine wpQuiet_nil ?_
        rintro _ ⟨V, rfl⟩
        have HBV := hideB2 (below_then HB.out (grw_below W V))
        generalize grw W V = w3 at *
        go_wp2
        go_ret
        exact ⟨ret_bool HE.out, HBV.out⟩
    · have d2 := decide_eq_false h2
      by_cases h3 : (65535 : Int) < po
      · have d3 := decide_eq_true h3
        have HE := hideB2 (show urlQ ho pa qu po hq = false by unfold urlQ withinB; rw [decide_eq_false (show ¬ po ≤ 65535 by omega)]; simp)
        rw [h1] at HH
        clear h1
        go_enter Tryz.func22, Tryz.ntmps22
        go_wp2
        generalize hW0 : w.alloc (.cells #[.string ho, .int .i64 po, .string pa, .string qu, .bool hq] 23) = W at *
        clear hW0
        obtain ⟨p0, p1, p2, p3, p4⟩ := A1.out.u5
        have z0 := fun V => grw_some p0 V
        have z1 := fun V => grw_some p1 V
        have z2 := fun V => grw_some p2 V
        have z3 := fun V => grw_some p3 V
        have z4 := fun V => grw_some p4 V
        clear p0 p1 p2 p3 p4
        refine wp_region_grow ?_ ?_ ?_
        · kernel_rfl
        · kernel_rfl
        · intro hne0
          repeat (go_big_quiet_step ((first | (go_at_call 55; exact grow_call (HH.out _)) | (go_at_call 15; exact grow_call (HCP.out _)))))
          refine wpQuiet_nil ?_
          rintro _ ⟨V, rfl⟩
          have HBV := hideB2 (below_then HB.out (grw_below W V))
          generalize grw W V = w3 at *
          go_wp2
          go_ret
          exact ⟨ret_bool HE.out, HBV.out⟩
      · have d3 := decide_eq_false h3
        cases h4 : eqB pa ⟨#[]⟩
        · cases h5 : eqB (clnB pa) pa
          · have HE := hideB2 (show urlQ ho pa qu po hq = false by unfold urlQ; rw [h5]; simp)
            rw [h1] at HH
            rw [eqB_nilU] at h4
            have h5' : ((clnB pa).toList == pa.toList) = false := h5
            clear h1 h5
            generalize clnB pa = cp at *
            go_enter Tryz.func22, Tryz.ntmps22
            go_wp2
            generalize hW0 : w.alloc (.cells #[.string ho, .int .i64 po, .string pa, .string qu, .bool hq] 23) = W at *
            clear hW0
            obtain ⟨p0, p1, p2, p3, p4⟩ := A1.out.u5
            have z0 := fun V => grw_some p0 V
            have z1 := fun V => grw_some p1 V
            have z2 := fun V => grw_some p2 V
            have z3 := fun V => grw_some p3 V
            have z4 := fun V => grw_some p4 V
            clear p0 p1 p2 p3 p4
            refine wp_region_grow ?_ ?_ ?_
            · kernel_rfl
            · kernel_rfl
            · intro hne0
              repeat (go_big_quiet_step ((first | (go_at_call 55; exact grow_call (HH.out _)) | (go_at_call 15; exact grow_call (HCP.out _)))))
              refine wpQuiet_nil ?_
              rintro _ ⟨V, rfl⟩
              have HBV := hideB2 (below_then HB.out (grw_below W V))
              generalize grw W V = w3 at *
              go_wp2
              go_ret
              exact ⟨ret_bool HE.out, HBV.out⟩
          · have h5' : ((clnB pa).toList == pa.toList) = true := h5
            cases h6 : (hq || eqB qu ⟨#[]⟩)
            · have HE := hideB2 (show urlQ ho pa qu po hq = false by unfold urlQ queQ; rw [h6]; simp)
              rw [h1] at HH
              rw [eqB_nilU] at h4
              rw [Bool.or_eq_false_iff, eqB_nilU] at h6
              obtain ⟨rfl, h7⟩ := h6
              clear h1 h5
              generalize clnB pa = cp at *
              go_enter Tryz.func22, Tryz.ntmps22
              go_wp2
              generalize hW0 : w.alloc (.cells #[.string ho, .int .i64 po, .string pa, .string qu, .bool false] 23) = W at *
              clear hW0
              obtain ⟨p0, p1, p2, p3, p4⟩ := A1.out.u5
              have z0 := fun V => grw_some p0 V
              have z1 := fun V => grw_some p1 V
              have z2 := fun V => grw_some p2 V
              have z3 := fun V => grw_some p3 V
              have z4 := fun V => grw_some p4 V
              clear p0 p1 p2 p3 p4
              refine wp_region_grow ?_ ?_ ?_
              · kernel_rfl
              · kernel_rfl
              · intro hne0
                repeat (go_big_quiet_step ((first | (go_at_call 55; exact grow_call (HH.out _)) | (go_at_call 15; exact grow_call (HCP.out _)))))
                refine wpQuiet_nil ?_
                rintro _ ⟨V, rfl⟩
                have HBV := hideB2 (below_then HB.out (grw_below W V))
                generalize grw W V = w3 at *
                go_wp2
                go_ret
                exact ⟨ret_bool HE.out, HBV.out⟩
            · have HS := urlQ_split ho pa qu po hq h1 h2 h3 h4 h5 h6
              have HUQ := eqB_upt qu
              rw [h1] at HH
              rw [eqB_nilU] at h4
              clear h1 h5
              generalize clnB pa = cp at *
              by_cases h7 : (200 : Int) < (qu.size : Int)
              · have d7 := decide_eq_true h7
                have HE := hideB2 (show urlQ ho pa qu po hq = false by rw [HS, decide_eq_false (show ¬ qu.size ≤ 200 by omega)]; simp)
                clear HS HUQ
                cases hq
                · rw [Bool.false_or, eqB_nilU] at h6
                  go_enter Tryz.func22, Tryz.ntmps22
                  go_wp2
                  generalize hW0 : w.alloc (.cells #[.string ho, .int .i64 po, .string pa, .string qu, .bool false] 23) = W at *
                  clear hW0
                  obtain ⟨p0, p1, p2, p3, p4⟩ := A1.out.u5
                  have z0 := fun V => grw_some p0 V
                  have z1 := fun V => grw_some p1 V
                  have z2 := fun V => grw_some p2 V
                  have z3 := fun V => grw_some p3 V
                  have z4 := fun V => grw_some p4 V
                  clear p0 p1 p2 p3 p4
                  refine wp_region_grow ?_ ?_ ?_
                  · kernel_rfl
                  · kernel_rfl
                  · intro hne0
                    repeat (go_big_quiet_step ((first | (go_at_call 55; exact grow_call (HH.out _)) | (go_at_call 15; exact grow_call (HCP.out _)))))
                    refine wpQuiet_nil ?_
                    rintro _ ⟨V, rfl⟩
                    have HBV := hideB2 (below_then HB.out (grw_below W V))
                    have A2 := A1.out.later (grw_below W V)
                    clear z0 z1 z2 z3 z4 A1
                    generalize grw W V = w3 at *
                    obtain ⟨p0, p1, p2, p3, p4⟩ := A2.u5
                    have z0 := fun V => grw_some p0 V
                    have z1 := fun V => grw_some p1 V
                    have z2 := fun V => grw_some p2 V
                    have z3 := fun V => grw_some p3 V
                    have z4 := fun V => grw_some p4 V
                    have HA2 := hideB2 A2
                    clear p0 p1 p2 p3 p4 A2
                    go_wp2
                    refine wp_region_grow ?_ ?_ ?_
                    · kernel_rfl
                    · kernel_rfl
                    · intro hne1
                      repeat (go_big_quiet_step ((first | (go_at_call 25; exact grow_same (HV.out _)) | (go_at_call 26; exact grow_same (HU.out _)))))
                      refine wpQuiet_nil ?_
                      rintro _ ⟨V2, rfl⟩
                      have HB4 := hideB2 (below_then HBV.out (grw_below w3 V2))
                      have A3 := HA2.out.later (grw_below w3 V2)
                      clear z0 z1 z2 z3 z4 HA2
                      generalize grw w3 V2 = w4 at *
                      obtain ⟨p0, p1, p2, p3, p4⟩ := A3.u5
                      clear A3
                      go_wp2
                      go_ret
                      exact ⟨ret_bool HE.out, HB4.out⟩
                · clear h6
                  go_enter Tryz.func22, Tryz.ntmps22
                  go_wp2
                  generalize hW0 : w.alloc (.cells #[.string ho, .int .i64 po, .string pa, .string qu, .bool true] 23) = W at *
                  clear hW0
                  obtain ⟨p0, p1, p2, p3, p4⟩ := A1.out.u5
                  have z0 := fun V => grw_some p0 V
                  have z1 := fun V => grw_some p1 V
                  have z2 := fun V => grw_some p2 V
                  have z3 := fun V => grw_some p3 V
                  have z4 := fun V => grw_some p4 V
                  clear p0 p1 p2 p3 p4
                  refine wp_region_grow ?_ ?_ ?_
                  · kernel_rfl
                  · kernel_rfl
                  · intro hne0
                    repeat (go_big_quiet_step ((first | (go_at_call 55; exact grow_call (HH.out _)) | (go_at_call 15; exact grow_call (HCP.out _)))))
                    refine wpQuiet_nil ?_
                    rintro _ ⟨V, rfl⟩
                    have HBV := hideB2 (below_then HB.out (grw_below W V))
                    have A2 := A1.out.later (grw_below W V)
                    clear z0 z1 z2 z3 z4 A1
                    generalize grw W V = w3 at *
                    obtain ⟨p0, p1, p2, p3, p4⟩ := A2.u5
                    have z0 := fun V => grw_some p0 V
                    have z1 := fun V => grw_some p1 V
                    have z2 := fun V => grw_some p2 V
                    have z3 := fun V => grw_some p3 V
                    have z4 := fun V => grw_some p4 V
                    have HA2 := hideB2 A2
                    clear p0 p1 p2 p3 p4 A2
                    go_wp2
                    refine wp_region_grow ?_ ?_ ?_
                    · kernel_rfl
                    · kernel_rfl
                    · intro hne1
                      repeat (go_big_quiet_step ((first | (go_at_call 25; exact grow_same (HV.out _)) | (go_at_call 26; exact grow_same (HU.out _)))))
                      refine wpQuiet_nil ?_
                      rintro _ ⟨V2, rfl⟩
                      have HB4 := hideB2 (below_then HBV.out (grw_below w3 V2))
                      have A3 := HA2.out.later (grw_below w3 V2)
                      clear z0 z1 z2 z3 z4 HA2
                      generalize grw w3 V2 = w4 at *
                      obtain ⟨p0, p1, p2, p3, p4⟩ := A3.u5
                      clear A3
                      go_wp2
                      go_ret
                      exact ⟨ret_bool HE.out, HB4.out⟩
              · have d7 := decide_eq_false h7
                rw [decide_eq_true (show qu.size ≤ 200 by omega), Bool.true_and] at HS
                cases h8 : eqB qu ⟨#[]⟩
                · have h8' := h8
                  rw [eqB_nilU] at h8'
                  have hpos : (0 : Int) < (qu.size : Int) := by
                    rcases Nat.eq_zero_or_pos qu.size with h0 | h0
                    · rw [empty_of h0] at h8'; cases h8'
                    · omega
                  rw [decide_eq_true hpos, Bool.true_and] at HV
                  rw [h8, Bool.false_or] at HS
                  rw [h8, Bool.or_false] at h6
                  subst h6
                  clear h8
                  cases h9 : allB vis8 qu
                  · rw [h9] at HV HS
                    have HE := hideB2 (show urlQ ho pa qu po true = false by rw [HS]; simp)
                    clear h9 HS HUQ
                    go_enter Tryz.func22, Tryz.ntmps22
                    go_wp2
                    generalize hW0 : w.alloc (.cells #[.string ho, .int .i64 po, .string pa, .string qu, .bool true] 23) = W at *
                    clear hW0
                    obtain ⟨p0, p1, p2, p3, p4⟩ := A1.out.u5
                    have z0 := fun V => grw_some p0 V
                    have z1 := fun V => grw_some p1 V
                    have z2 := fun V => grw_some p2 V
                    have z3 := fun V => grw_some p3 V
                    have z4 := fun V => grw_some p4 V
                    clear p0 p1 p2 p3 p4
                    refine wp_region_grow ?_ ?_ ?_
                    · kernel_rfl
                    · kernel_rfl
                    · intro hne0
                      repeat (go_big_quiet_step ((first | (go_at_call 55; exact grow_call (HH.out _)) | (go_at_call 15; exact grow_call (HCP.out _)))))
                      refine wpQuiet_nil ?_
                      rintro _ ⟨V, rfl⟩
                      have HBV := hideB2 (below_then HB.out (grw_below W V))
                      have A2 := A1.out.later (grw_below W V)
                      clear z0 z1 z2 z3 z4 A1
                      generalize grw W V = w3 at *
                      obtain ⟨p0, p1, p2, p3, p4⟩ := A2.u5
                      have z0 := fun V => grw_some p0 V
                      have z1 := fun V => grw_some p1 V
                      have z2 := fun V => grw_some p2 V
                      have z3 := fun V => grw_some p3 V
                      have z4 := fun V => grw_some p4 V
                      have HA2 := hideB2 A2
                      clear p0 p1 p2 p3 p4 A2
                      go_wp2
                      refine wp_region_grow ?_ ?_ ?_
                      · kernel_rfl
                      · kernel_rfl
                      · intro hne1
                        repeat (go_big_quiet_step ((first | (go_at_call 25; exact grow_same (HV.out _)) | (go_at_call 26; exact grow_same (HU.out _)))))
                        refine wpQuiet_nil ?_
                        rintro _ ⟨V2, rfl⟩
                        have HB4 := hideB2 (below_then HBV.out (grw_below w3 V2))
                        have A3 := HA2.out.later (grw_below w3 V2)
                        clear z0 z1 z2 z3 z4 HA2
                        generalize grw w3 V2 = w4 at *
                        obtain ⟨p0, p1, p2, p3, p4⟩ := A3.u5
                        clear A3
                        go_wp2
                        go_ret
                        exact ⟨ret_bool HE.out, HB4.out⟩
                  · rw [h9] at HV HS
                    rw [Bool.true_and] at HS
                    clear h9
                    cases h10 : decide (idxS 35 qu < 0)
                    · rw [h10] at HS HUQ
                      have HE := hideB2 (show urlQ ho pa qu po true = false by rw [HS]; simp)
                      have h11 : ((uptS 35 qu).toList == qu.toList) = false := HUQ
                      clear h10 HS HUQ
                      generalize uptS 35 qu = uq at *
                      go_enter Tryz.func22, Tryz.ntmps22
                      go_wp2
                      generalize hW0 : w.alloc (.cells #[.string ho, .int .i64 po, .string pa, .string qu, .bool true] 23) = W at *
                      clear hW0
                      obtain ⟨p0, p1, p2, p3, p4⟩ := A1.out.u5
                      have z0 := fun V => grw_some p0 V
                      have z1 := fun V => grw_some p1 V
                      have z2 := fun V => grw_some p2 V
                      have z3 := fun V => grw_some p3 V
                      have z4 := fun V => grw_some p4 V
                      clear p0 p1 p2 p3 p4
                      refine wp_region_grow ?_ ?_ ?_
                      · kernel_rfl
                      · kernel_rfl
                      · intro hne0
                        repeat (go_big_quiet_step ((first | (go_at_call 55; exact grow_call (HH.out _)) | (go_at_call 15; exact grow_call (HCP.out _)))))
                        refine wpQuiet_nil ?_
                        rintro _ ⟨V, rfl⟩
                        have HBV := hideB2 (below_then HB.out (grw_below W V))
                        have A2 := A1.out.later (grw_below W V)
                        clear z0 z1 z2 z3 z4 A1
                        generalize grw W V = w3 at *
                        obtain ⟨p0, p1, p2, p3, p4⟩ := A2.u5
                        have z0 := fun V => grw_some p0 V
                        have z1 := fun V => grw_some p1 V
                        have z2 := fun V => grw_some p2 V
                        have z3 := fun V => grw_some p3 V
                        have z4 := fun V => grw_some p4 V
                        have HA2 := hideB2 A2
                        clear p0 p1 p2 p3 p4 A2
                        go_wp2
                        refine wp_region_grow ?_ ?_ ?_
                        · kernel_rfl
                        · kernel_rfl
                        · intro hne1
                          repeat (go_big_quiet_step ((first | (go_at_call 25; exact grow_same (HV.out _)) | (go_at_call 26; exact grow_same (HU.out _)))))
                          refine wpQuiet_nil ?_
                          rintro _ ⟨V2, rfl⟩
                          have HB4 := hideB2 (below_then HBV.out (grw_below w3 V2))
                          have A3 := HA2.out.later (grw_below w3 V2)
                          clear z0 z1 z2 z3 z4 HA2
                          generalize grw w3 V2 = w4 at *
                          obtain ⟨p0, p1, p2, p3, p4⟩ := A3.u5
                          clear A3
                          go_wp2
                          go_ret
                          exact ⟨ret_bool HE.out, HB4.out⟩
                    · rw [h10] at HS HUQ
                      rw [Bool.true_and] at HS
                      have HE := hideB2 (show urlQ ho pa qu po true = decide (((utxt ho pa qu po true).size : Int) ≤ 200) by rw [HS]; apply decide_eq_decide.2; omega)
                      have h11 : ((uptS 35 qu).toList == qu.toList) = true := HUQ
                      clear h10 HS HUQ
                      generalize uptS 35 qu = uq at *
                      generalize utxt ho pa qu po true = T at *
                      go_enter Tryz.func22, Tryz.ntmps22
                      go_wp2
                      generalize hW0 : w.alloc (.cells #[.string ho, .int .i64 po, .string pa, .string qu, .bool true] 23) = W at *
                      clear hW0
                      obtain ⟨p0, p1, p2, p3, p4⟩ := A1.out.u5
                      have z0 := fun V => grw_some p0 V
                      have z1 := fun V => grw_some p1 V
                      have z2 := fun V => grw_some p2 V
                      have z3 := fun V => grw_some p3 V
                      have z4 := fun V => grw_some p4 V
                      clear p0 p1 p2 p3 p4
                      refine wp_region_grow ?_ ?_ ?_
                      · kernel_rfl
                      · kernel_rfl
                      · intro hne0
                        repeat (go_big_quiet_step ((first | (go_at_call 55; exact grow_call (HH.out _)) | (go_at_call 15; exact grow_call (HCP.out _)))))
                        refine wpQuiet_nil ?_
                        rintro _ ⟨V, rfl⟩
                        have HBV := hideB2 (below_then HB.out (grw_below W V))
                        have A2 := A1.out.later (grw_below W V)
                        clear z0 z1 z2 z3 z4 A1
                        generalize grw W V = w3 at *
                        obtain ⟨p0, p1, p2, p3, p4⟩ := A2.u5
                        have z0 := fun V => grw_some p0 V
                        have z1 := fun V => grw_some p1 V
                        have z2 := fun V => grw_some p2 V
                        have z3 := fun V => grw_some p3 V
                        have z4 := fun V => grw_some p4 V
                        have HA2 := hideB2 A2
                        clear p0 p1 p2 p3 p4 A2
                        go_wp2
                        refine wp_region_grow ?_ ?_ ?_
                        · kernel_rfl
                        · kernel_rfl
                        · intro hne1
                          repeat (go_big_quiet_step ((first | (go_at_call 25; exact grow_same (HV.out _)) | (go_at_call 26; exact grow_same (HU.out _)))))
                          refine wpQuiet_nil ?_
                          rintro _ ⟨V2, rfl⟩
                          have HB4 := hideB2 (below_then HBV.out (grw_below w3 V2))
                          have A3 := HA2.out.later (grw_below w3 V2)
                          clear z0 z1 z2 z3 z4 HA2
                          generalize grw w3 V2 = w4 at *
                          obtain ⟨p0, p1, p2, p3, p4⟩ := A3.u5
                          clear A3
                          go_wp2_with (go_at_call 56; refine (HX.out _).mono ?_; rintro e w5 ⟨rfl, hb5⟩)
                          go_ret
                          exact ⟨ret_bool HE.out, below_then HB4.out hb5⟩
                · have h8' := h8
                  rw [eqB_nilU] at h8'
                  rw [h8, Bool.true_or, Bool.true_and] at HS
                  have hqe := eqB_iff.1 h8
                  have h10 : decide (idxS 35 qu < 0) = true := by rw [hqe]; rfl
                  rw [h10] at HS HUQ
                  rw [Bool.true_and] at HS
                  have HE := hideB2 (show urlQ ho pa qu po hq = decide (((utxt ho pa qu po hq).size : Int) ≤ 200) by rw [HS]; apply decide_eq_decide.2; omega)
                  have h11 : ((uptS 35 qu).toList == qu.toList) = true := HUQ
                  clear h10 HS HUQ hqe h8
                  generalize uptS 35 qu = uq at *
                  generalize utxt ho pa qu po hq = T at *
                  clear h6
                  cases hq
                  · have h12 : qu.toList.isEmpty = true := h8'
                    go_enter Tryz.func22, Tryz.ntmps22
                    go_wp2
                    generalize hW0 : w.alloc (.cells #[.string ho, .int .i64 po, .string pa, .string qu, .bool false] 23) = W at *
                    clear hW0
                    obtain ⟨p0, p1, p2, p3, p4⟩ := A1.out.u5
                    have z0 := fun V => grw_some p0 V
                    have z1 := fun V => grw_some p1 V
                    have z2 := fun V => grw_some p2 V
                    have z3 := fun V => grw_some p3 V
                    have z4 := fun V => grw_some p4 V
                    clear p0 p1 p2 p3 p4
                    refine wp_region_grow ?_ ?_ ?_
                    · kernel_rfl
                    · kernel_rfl
                    · intro hne0
                      repeat (go_big_quiet_step ((first | (go_at_call 55; exact grow_call (HH.out _)) | (go_at_call 15; exact grow_call (HCP.out _)))))
                      refine wpQuiet_nil ?_
                      rintro _ ⟨V, rfl⟩
                      have HBV := hideB2 (below_then HB.out (grw_below W V))
                      have A2 := A1.out.later (grw_below W V)
                      clear z0 z1 z2 z3 z4 A1
                      generalize grw W V = w3 at *
                      obtain ⟨p0, p1, p2, p3, p4⟩ := A2.u5
                      have z0 := fun V => grw_some p0 V
                      have z1 := fun V => grw_some p1 V
                      have z2 := fun V => grw_some p2 V
                      have z3 := fun V => grw_some p3 V
                      have z4 := fun V => grw_some p4 V
                      have HA2 := hideB2 A2
                      clear p0 p1 p2 p3 p4 A2
                      go_wp2
                      refine wp_region_grow ?_ ?_ ?_
                      · kernel_rfl
                      · kernel_rfl
                      · intro hne1
                        repeat (go_big_quiet_step ((first | (go_at_call 25; exact grow_same (HV.out _)) | (go_at_call 26; exact grow_same (HU.out _)))))
                        refine wpQuiet_nil ?_
                        rintro _ ⟨V2, rfl⟩
                        have HB4 := hideB2 (below_then HBV.out (grw_below w3 V2))
                        have A3 := HA2.out.later (grw_below w3 V2)
                        clear z0 z1 z2 z3 z4 HA2
                        generalize grw w3 V2 = w4 at *
                        obtain ⟨p0, p1, p2, p3, p4⟩ := A3.u5
                        clear A3
                        go_wp2_with (go_at_call 56; refine (HX.out _).mono ?_; rintro e w5 ⟨rfl, hb5⟩)
                        go_ret
                        exact ⟨ret_bool HE.out, below_then HB4.out hb5⟩
                  · have h12 : qu.toList.isEmpty = true := h8'
                    go_enter Tryz.func22, Tryz.ntmps22
                    go_wp2
                    generalize hW0 : w.alloc (.cells #[.string ho, .int .i64 po, .string pa, .string qu, .bool true] 23) = W at *
                    clear hW0
                    obtain ⟨p0, p1, p2, p3, p4⟩ := A1.out.u5
                    have z0 := fun V => grw_some p0 V
                    have z1 := fun V => grw_some p1 V
                    have z2 := fun V => grw_some p2 V
                    have z3 := fun V => grw_some p3 V
                    have z4 := fun V => grw_some p4 V
                    clear p0 p1 p2 p3 p4
                    refine wp_region_grow ?_ ?_ ?_
                    · kernel_rfl
                    · kernel_rfl
                    · intro hne0
                      repeat (go_big_quiet_step ((first | (go_at_call 55; exact grow_call (HH.out _)) | (go_at_call 15; exact grow_call (HCP.out _)))))
                      refine wpQuiet_nil ?_
                      rintro _ ⟨V, rfl⟩
                      have HBV := hideB2 (below_then HB.out (grw_below W V))
                      have A2 := A1.out.later (grw_below W V)
                      clear z0 z1 z2 z3 z4 A1
                      generalize grw W V = w3 at *
                      obtain ⟨p0, p1, p2, p3, p4⟩ := A2.u5
                      have z0 := fun V => grw_some p0 V
                      have z1 := fun V => grw_some p1 V
                      have z2 := fun V => grw_some p2 V
                      have z3 := fun V => grw_some p3 V
                      have z4 := fun V => grw_some p4 V
                      have HA2 := hideB2 A2
                      clear p0 p1 p2 p3 p4 A2
                      go_wp2
                      refine wp_region_grow ?_ ?_ ?_
                      · kernel_rfl
                      · kernel_rfl
                      · intro hne1
                        repeat (go_big_quiet_step ((first | (go_at_call 25; exact grow_same (HV.out _)) | (go_at_call 26; exact grow_same (HU.out _)))))
                        refine wpQuiet_nil ?_
                        rintro _ ⟨V2, rfl⟩
                        have HB4 := hideB2 (below_then HBV.out (grw_below w3 V2))
                        have A3 := HA2.out.later (grw_below w3 V2)
                        clear z0 z1 z2 z3 z4 HA2
                        generalize grw w3 V2 = w4 at *
                        obtain ⟨p0, p1, p2, p3, p4⟩ := A3.u5
                        clear A3
                        go_wp2_with (go_at_call 56; refine (HX.out _).mono ?_; rintro e w5 ⟨rfl, hb5⟩)
                        go_ret
                        exact ⟨ret_bool HE.out, below_then HB4.out hb5⟩
        · have HE := hideB2 (show urlQ ho pa qu po hq = false by unfold urlQ; rw [h4]; simp)
          rw [h1] at HH
          rw [eqB_nilU] at h4
          clear h1
          go_enter Tryz.func22, Tryz.ntmps22
          go_wp2
          generalize hW0 : w.alloc (.cells #[.string ho, .int .i64 po, .string pa, .string qu, .bool hq] 23) = W at *
          clear hW0
          obtain ⟨p0, p1, p2, p3, p4⟩ := A1.out.u5
          have z0 := fun V => grw_some p0 V
          have z1 := fun V => grw_some p1 V
          have z2 := fun V => grw_some p2 V
          have z3 := fun V => grw_some p3 V
          have z4 := fun V => grw_some p4 V
          clear p0 p1 p2 p3 p4
          refine wp_region_grow ?_ ?_ ?_
          · kernel_rfl
          · kernel_rfl
          · intro hne0
            repeat (go_big_quiet_step ((first | (go_at_call 55; exact grow_call (HH.out _)) | (go_at_call 15; exact grow_call (HCP.out _)))))
            refine wpQuiet_nil ?_
            rintro _ ⟨V, rfl⟩
            have HBV := hideB2 (below_then HB.out (grw_below W V))
            generalize grw W V = w3 at *
            go_wp2
            go_ret
            exact ⟨ret_bool HE.out, HBV.out⟩
set_option maxHeartbeats 2000000 in
theorem sUrlText_any (ho pa qu : ByteArray) (po : Int) (hq : Bool) (w : World) (hho : ho.size ≤ 1048576) (hpa : pa.size ≤ 1048576) (hqu : qu.size ≤ 1048576) :
    Calls Tryz.prog 53 #[.agg #[.string ho, .int .i64 po, .string pa, .string qu, .bool hq]] w fun e w' => e = .returned (.string (textB ho pa qu po hq)) ∧ Below w.heap.size w w' := by
  have HB := hideB2 (below_a1 w (.cells #[.string ho, .int .i64 po, .string pa, .string qu, .bool hq] 23))
  have A1 := hideB2 (Blk.new w #[.string ho, .int .i64 po, .string pa, .string qu, .bool hq] 23)
  have HU := hideB2 (fun W => sUrlOk_any ho pa qu po hq W hho hpa hqu)
  have HX := hideB2 (fun W => l7text_any ho pa qu po hq W hho hpa hqu)
  unfold textB
  generalize utxt ho pa qu po hq = T at *
  cases hh : urlQ ho pa qu po hq
  · rw [hh] at HU
    rw [if_neg (by simp)]
    clear hh
    go_enter Tryz.func53, Tryz.ntmps53
    go_wp2_with (go_at_call 22; refine (HU.out _).mono ?_; rintro e w1 ⟨rfl, hb1⟩)
    go_ret
    exact ⟨rfl, below_then HB.out hb1⟩
  · rw [hh] at HU
    rw [if_pos rfl]
    clear hh
    go_enter Tryz.func53, Tryz.ntmps53
    go_wp2_with (first
      | (go_at_call 22; refine (HU.out _).mono ?_; rintro e w1 ⟨rfl, hb1⟩; obtain ⟨p0, p1, p2, p3, p4⟩ := (A1.out.later hb1).u5)
      | (go_at_call 56; refine (HX.out _).mono ?_; rintro e w2 ⟨rfl, hb2⟩))
    go_ret
    exact ⟨rfl, below_then (below_then HB.out hb1) hb2⟩
end Go.Proofs.YtefhpjipcdmbaabGreatDoor
