/-
  Chapter 7: an address's text, and is it one; the specification's side. · Chapter 7: a host's pieces turned, and the form of the index; both sides. · Chapter 7: the form of the index; both sides. · Chapter 7: an address read; lists, and the program's parts. · Chapter 7: how many cells an address has. · Chapter 7: an address read; the program's side.
-/
import Derived.Test.YthdgeepedofleaaGreatDoorJ6
import Derived.Test.YthdgeepedofleaaGreatDoorJ2
import Derived.Test.YthdgeepedofleaaGreatDoorJ0
import Derived.Deep.DeepCutAuto
namespace Go.Proofs.YthdgeepedofleaaGreatDoor
set_option linter.unusedVariables false
set_option linter.unusedSimpArgs false
open Go.RowKit
set_option maxHeartbeats 1000000 in
theorem l7port_any (ho pa qu : ByteArray) (po : Int) (hq : Bool) (w : World) :
    Calls Tryz.prog 170 #[.agg #[.string ho, .int .i64 po, .string pa, .string qu, .bool hq]] w fun e w' => e = .returned (.string (portB po)) ∧ Below w.heap.size w w' := by
  have HB := hideB2 (below_a1 w (.cells #[.string ho, .int .i64 po, .string pa, .string qu, .bool hq] 139))
  cases h80 : (po == 80)
  · rw [portB_no h80]
    have HD := hideB2 (fun W => sDecText_all po W)
    have hdz := decT_size po
    generalize decT po = d at *
    go_enter Tryz.func170, Tryz.ntmps170
    go_wp2_with (go_at_call 93; refine (HD.out _).mono ?_; rintro e w1 ⟨rfl, hb1⟩)
    go_ret
    exact ⟨rfl, below_then HB.out hb1⟩
  · obtain rfl := beq_iff_eq.1 h80
    go_enter Tryz.func170, Tryz.ntmps170
    go_wp2
    go_ret
    exact ⟨rfl, HB.out⟩
set_option maxHeartbeats 1000000 in
theorem l7query_any (ho pa qu : ByteArray) (po : Int) (hq : Bool) (w : World) (hqu : qu.size ≤ 1048576) :
    Calls Tryz.prog 171 #[.agg #[.string ho, .int .i64 po, .string pa, .string qu, .bool hq]] w fun e w' => e = .returned (.string (qryB qu hq)) ∧ Below w.heap.size w w' := by
  have HB := hideB2 (below_a1 w (.cells #[.string ho, .int .i64 po, .string pa, .string qu, .bool hq] 139))
  cases hq
  · go_enter Tryz.func171, Tryz.ntmps171
    go_wp2
    go_ret
    exact ⟨rfl, HB.out⟩
  · go_enter Tryz.func171, Tryz.ntmps171
    go_wp2
    go_ret
    exact ⟨rfl, HB.out⟩
set_option maxRecDepth 100000 in
set_option maxHeartbeats 2000000 in
theorem l7text_any (ho pa qu : ByteArray) (po : Int) (hq : Bool) (w : World) (hho : ho.size ≤ 1048576) (hpa : pa.size ≤ 1048576) (hqu : qu.size ≤ 1048576) :
    Calls Tryz.prog 129 #[.agg #[.string ho, .int .i64 po, .string pa, .string qu, .bool hq]] w fun e w' => e = .returned (.string (utxt ho pa qu po hq)) ∧ Below w.heap.size w w' := by
  have HB := hideB2 (below_a1 w (.cells #[.string ho, .int .i64 po, .string pa, .string qu, .bool hq] 139))
  have A1 := Blk.new w #[.string ho, .int .i64 po, .string pa, .string qu, .bool hq] 139
  have hz1 := portB_size po
  have hz2 := qryB_size qu hq
  have HP := hideB2 (fun W => l7port_any ho pa qu po hq W)
  have HQ := hideB2 (fun W => l7query_any ho pa qu po hq W hqu)
  have HE := hideB2 (show utxt ho pa qu po hq = (((⟨#[104, 116, 116, 112, 58, 47, 47]⟩ ++ ho) ++ portB po) ++ pa) ++ qryB qu hq from rfl)
  generalize utxt ho pa qu po hq = R at *
  generalize portB po = P at *
  generalize qryB qu hq = Q at *
  have hs0 : (⟨#[104, 116, 116, 112, 58, 47, 47]⟩ : ByteArray).size = 7 := rfl
  have hs1 : ((⟨#[104, 116, 116, 112, 58, 47, 47]⟩ : ByteArray) ++ ho).size ≤ 1048583 := by rw [ByteArray.size_append]; omega
  have hs2 : (((⟨#[104, 116, 116, 112, 58, 47, 47]⟩ : ByteArray) ++ ho) ++ P).size ≤ 1048600 := by rw [ByteArray.size_append]; omega
  have hs3 : ((((⟨#[104, 116, 116, 112, 58, 47, 47]⟩ : ByteArray) ++ ho) ++ P) ++ pa).size ≤ 2097180 := by rw [ByteArray.size_append]; omega
  go_enter Tryz.func129, Tryz.ntmps129
  go_wp2
  generalize hW : w.alloc (.cells #[.string ho, .int .i64 po, .string pa, .string qu, .bool hq] 139) = W at *
  clear hW
  obtain ⟨p0, p1, p2, p3, p4⟩ := A1.u5
  have z0 := fun V => grw_some p0 V
  have z1 := fun V => grw_some p1 V
  have z2 := fun V => grw_some p2 V
  have z3 := fun V => grw_some p3 V
  have z4 := fun V => grw_some p4 V
  clear p0 p1 p2 p3 p4 A1
  refine wp_region_grow ?_ ?_ ?_
  · kernel_rfl
  · kernel_rfl
  · intro hne
    repeat (go_big_quiet_step ((first | (go_at_call 170; exact grow_call (HP.out _)) | (go_at_call 171; exact grow_call (HQ.out _)))))
    refine wpQuiet_nil ?_
    rintro _ ⟨V, rfl⟩
    have HBV := hideB2 (below_then HB.out (grw_below W V))
    generalize grw W V = w3 at *
    go_wp2
    go_ret
    exact ⟨ret_str HE.out, HBV.out⟩
/-- What of an address's text may be seen. -/
theorem digits_vis {n : Int} (h0 : 0 ≤ n) (h1 : n ≤ 65535) : allB vis8 (decT n) = true := by
  unfold decT
  rw [if_pos ⟨h0, by omega⟩]
  unfold allB decB
  rw [List.all_eq_true]
  intro b hb
  have hd := allDig_dec n.toNat
  unfold allDig at hd
  rw [List.all_eq_true] at hd
  have h2 := digP_iff.1 (hd b hb)
  unfold vis8 visP
  rw [decide_eq_true (show (33 : Int) ≤ (b.toNat : Int) by omega), decide_eq_true (show (b.toNat : Int) ≤ 126 by omega)]
  rfl
theorem clean_vis {s : ByteArray} (h0 : eqB s ⟨#[]⟩ = false) (h : eqB (clnB s) s = true) : allB vis8 s = true := by
  have h1 := eqB_iff.1 h
  cases hp : pthQ s
  · rw [clnB_no hp] at h1
    rw [← h1] at h0
    rw [eqB_self] at h0; cases h0
  · unfold pthQ at hp
    rw [Bool.and_eq_true, Bool.and_eq_true] at hp
    exact (targQ_iff.1 hp.1.1).2.2
theorem eqB_upt (q : ByteArray) : eqB (uptS 35 q) q = decide (idxS 35 q < 0) := by
  rcases idxS_cases 35 q with h | ⟨i, h, hi⟩
  · rw [uptS_none h, eqB_self, h]; rfl
  · rw [uptS_some h, h, decide_eq_false (by omega)]
    cases he : eqB (q.extract 0 i) q with
    | false => rfl
    | true =>
      have := congrArg ByteArray.size (eqB_iff.1 he)
      rw [ByteArray.size_extract] at this
      omega
theorem urlQ_split (ho pa qu : ByteArray) (po : Int) (hq : Bool) (h1 : hostQ ho = true) (h2 : ¬ po < 1) (h3 : ¬ (65535 : Int) < po) (h4 : eqB pa ⟨#[]⟩ = false) (h5 : eqB (clnB pa) pa = true) (h6 : (hq || eqB qu ⟨#[]⟩) = true) :
    urlQ ho pa qu po hq = (decide (qu.size ≤ 200) && ((eqB qu ⟨#[]⟩ || allB vis8 qu) && (decide (idxS 35 qu < 0) && decide ((utxt ho pa qu po hq).size ≤ 200)))) := by
  have v1 : allB vis8 ho = true := by
    unfold hostQ at h1
    rw [Bool.and_eq_true, Bool.and_eq_true] at h1
    exact host_vis h1.1.2
  have v2 : allB vis8 (portB po) = true := by
    unfold portB
    split
    · rfl
    · rw [all_app, digits_vis (by omega) (by omega)]; rfl
  have v3 := clean_vis h4 h5
  have v4 : allB vis8 (utxt ho pa qu po hq) = allB vis8 (qryB qu hq) := by
    unfold utxt
    rw [all_app, all_app, all_app, all_app, v1, v2, v3]
    rfl
  have v5 : allB vis8 (qryB qu hq) = (eqB qu ⟨#[]⟩ || allB vis8 qu) := by
    unfold qryB
    cases hq
    · rw [Bool.false_or] at h6
      rw [h6]; rfl
    · rw [if_pos rfl, all_app]
      cases he : eqB qu ⟨#[]⟩
      · rfl
      · rw [eqB_iff.1 he]; rfl
  have hz := utxt_size ho pa qu po hq
  have hw : withinB po 1 65535 = true := within_iff.2 ⟨by omega, by omega⟩
  unfold urlQ queQ
  rw [h1, hw, h4, h5, h6]
  unfold targQ
  rw [v4, v5, decide_eq_true (show 1 ≤ ((utxt ho pa qu po hq).size : Int) by omega)]
  simp only [Bool.true_and, Bool.not_false]
  generalize (eqB qu ⟨#[]⟩ || allB vis8 qu) = x
  by_cases h200 : (utxt ho pa qu po hq).size ≤ 200
  · have hq2 : qu.size ≤ 200 := by
      cases hq
      · rw [Bool.false_or] at h6
        rw [eqB_iff.1 h6]; show (0 : Nat) ≤ 200; omega
      · have : (qryB qu true).size = 1 + qu.size := by unfold qryB; rw [if_pos rfl, ByteArray.size_append]; rfl
        omega
    rw [decide_eq_true h200, decide_eq_true hq2, decide_eq_true (show ((utxt ho pa qu po hq).size : Int) ≤ 200 by omega)]
    cases x <;> simp
  · rw [decide_eq_false h200, decide_eq_false (show ¬ ((utxt ho pa qu po hq).size : Int) ≤ 200 by omega)]
    simp
set_option maxRecDepth 100000 in
set_option maxHeartbeats 8000000 in
theorem sUrlOk_any (ho pa qu : ByteArray) (po : Int) (hq : Bool) (w : World) (hho : ho.size ≤ 1048576) (hpa : pa.size ≤ 1048576) (hqu : qu.size ≤ 1048576) :
    Calls Tryz.prog 128 #[.agg #[.string ho, .int .i64 po, .string pa, .string qu, .bool hq]] w fun e w' => e = .returned (.bool (urlQ ho pa qu po hq)) ∧ Below w.heap.size w w' := by
  have HB := hideB2 (below_a1 w (.cells #[.string ho, .int .i64 po, .string pa, .string qu, .bool hq] 139))
  have A1 := hideB2 (Blk.new w #[.string ho, .int .i64 po, .string pa, .string qu, .bool hq] 139)
  have HH := hideB2 (fun W => l7host_any ho W (by unfold maxLen; omega))
  have HCP := hideB2 (fun W => sCleanPath_any pa W (by unfold maxLen; omega))
  have HV := hideB2 (fun W => l6visible_any qu W (by unfold maxLen; omega))
  have HU := hideB2 (fun W => l6uptoS_any qu 35 W (by unfold maxLen; omega))
  change Hid (∀ W, Calls _ _ #[_, .int .u8 35] W _) at HU
  have HX := hideB2 (fun W => l7text_any ho pa qu po hq W hho hpa hqu)
  cases h1 : hostQ ho
  · have HE := hideB2 (show urlQ ho pa qu po hq = false by unfold urlQ; rw [h1]; simp)
    rw [h1] at HH
    clear h1
    go_enter Tryz.func128, Tryz.ntmps128
    go_wp2
    generalize hW0 : w.alloc (.cells #[.string ho, .int .i64 po, .string pa, .string qu, .bool hq] 139) = W at *
    clear hW0
    obtain ⟨p0, p1, p2, p3, p4⟩ := A1.out.u5
    have z0 := fun V => grw_some p0 V
    have z1 := fun V => grw_some p1 V
    have z2 := fun V => grw_some p2 V
    have z3 := fun V => grw_some p3 V
    have z4 := fun V => grw_some p4 V
    clear p0 p1 p2 p3 p4
    refine wp_region_grow ?_ ?_ ?_
    · kernel_rfl
    · kernel_rfl
    · intro hne0
      repeat (go_big_quiet_step ((first | (go_at_call 169; exact grow_call (HH.out _)) | (go_at_call 127; exact grow_call (HCP.out _)))))
      refine wpQuiet_nil ?_
      rintro _ ⟨V, rfl⟩
      have HBV := hideB2 (below_then HB.out (grw_below W V))
      generalize grw W V = w3 at *
      go_wp2
      go_ret
      exact ⟨ret_bool HE.out, HBV.out⟩
  · by_cases h2 : po < 1
    · have d2 := decide_eq_true h2
      have HE := hideB2 (show urlQ ho pa qu po hq = false by unfold urlQ withinB; rw [decide_eq_false (show ¬ 1 ≤ po by omega)]; simp)
      rw [h1] at HH
      clear h1
      go_enter Tryz.func128, Tryz.ntmps128
      go_wp2
      generalize hW0 : w.alloc (.cells #[.string ho, .int .i64 po, .string pa, .string qu, .bool hq] 139) = W at *
      clear hW0
      obtain ⟨p0, p1, p2, p3, p4⟩ := A1.out.u5
      have z0 := fun V => grw_some p0 V
      have z1 := fun V => grw_some p1 V
      have z2 := fun V => grw_some p2 V
      have z3 := fun V => grw_some p3 V
      have z4 := fun V => grw_some p4 V
      clear p0 p1 p2 p3 p4
      refine wp_region_grow ?_ ?_ ?_
      · kernel_rfl
      · kernel_rfl
      · intro hne0
        repeat (go_big_quiet_step ((first | (go_at_call 169; exact grow_call (HH.out _)) | (go_at_call 127; exact grow_call (HCP.out _)))))
        refine wpQuiet_nil ?_
        rintro _ ⟨V, rfl⟩
        have HBV := hideB2 (below_then HB.out (grw_below W V))
        generalize grw W V = w3 at *
        go_wp2
        go_ret
        exact ⟨ret_bool HE.out, HBV.out⟩
    · have d2 := decide_eq_false h2
      by_cases h3 : (65535 : Int) < po
      · have d3 := decide_eq_true h3
        have HE := hideB2 (show urlQ ho pa qu po hq = false by unfold urlQ withinB; rw [decide_eq_false (show ¬ po ≤ 65535 by omega)]; simp)
        rw [h1] at HH
        clear h1
        go_enter Tryz.func128, Tryz.ntmps128
        go_wp2
        generalize hW0 : w.alloc (.cells #[.string ho, .int .i64 po, .string pa, .string qu, .bool hq] 139) = W at *
        clear hW0
        obtain ⟨p0, p1, p2, p3, p4⟩ := A1.out.u5
        have z0 := fun V => grw_some p0 V
        have z1 := fun V => grw_some p1 V
        have z2 := fun V => grw_some p2 V
        have z3 := fun V => grw_some p3 V
        have z4 := fun V => grw_some p4 V
        clear p0 p1 p2 p3 p4
        refine wp_region_grow ?_ ?_ ?_
        · kernel_rfl
        · kernel_rfl
        · intro hne0
          repeat (go_big_quiet_step ((first | (go_at_call 169; exact grow_call (HH.out _)) | (go_at_call 127; exact grow_call (HCP.out _)))))
          refine wpQuiet_nil ?_
          rintro _ ⟨V, rfl⟩
          have HBV := hideB2 (below_then HB.out (grw_below W V))
          generalize grw W V = w3 at *
          go_wp2
          go_ret
          exact ⟨ret_bool HE.out, HBV.out⟩
      · have d3 := decide_eq_false h3
        cases h4 : eqB pa ⟨#[]⟩
        · cases h5 : eqB (clnB pa) pa
          · have HE := hideB2 (show urlQ ho pa qu po hq = false by unfold urlQ; rw [h5]; simp)
            rw [h1] at HH
            rw [eqB_nilU] at h4
            have h5' : ((clnB pa).toList == pa.toList) = false := h5
            clear h1 h5
            generalize clnB pa = cp at *
            go_enter Tryz.func128, Tryz.ntmps128
            go_wp2
            generalize hW0 : w.alloc (.cells #[.string ho, .int .i64 po, .string pa, .string qu, .bool hq] 139) = W at *
            clear hW0
            obtain ⟨p0, p1, p2, p3, p4⟩ := A1.out.u5
            have z0 := fun V => grw_some p0 V
            have z1 := fun V => grw_some p1 V
            have z2 := fun V => grw_some p2 V
            have z3 := fun V => grw_some p3 V
            have z4 := fun V => grw_some p4 V
            clear p0 p1 p2 p3 p4
            refine wp_region_grow ?_ ?_ ?_
            · kernel_rfl
            · kernel_rfl
            · intro hne0
              repeat (go_big_quiet_step ((first | (go_at_call 169; exact grow_call (HH.out _)) | (go_at_call 127; exact grow_call (HCP.out _)))))
              refine wpQuiet_nil ?_
              rintro _ ⟨V, rfl⟩
              have HBV := hideB2 (below_then HB.out (grw_below W V))
              generalize grw W V = w3 at *
              go_wp2
              go_ret
              exact ⟨ret_bool HE.out, HBV.out⟩
          · have h5' : ((clnB pa).toList == pa.toList) = true := h5
            cases h6 : (hq || eqB qu ⟨#[]⟩)
            · have HE := hideB2 (show urlQ ho pa qu po hq = false by unfold urlQ queQ; rw [h6]; simp)
              rw [h1] at HH
              rw [eqB_nilU] at h4
              rw [Bool.or_eq_false_iff, eqB_nilU] at h6
              obtain ⟨rfl, h7⟩ := h6
              clear h1 h5
              generalize clnB pa = cp at *
              go_enter Tryz.func128, Tryz.ntmps128
              go_wp2
              generalize hW0 : w.alloc (.cells #[.string ho, .int .i64 po, .string pa, .string qu, .bool false] 139) = W at *
              clear hW0
              obtain ⟨p0, p1, p2, p3, p4⟩ := A1.out.u5
              have z0 := fun V => grw_some p0 V
              have z1 := fun V => grw_some p1 V
              have z2 := fun V => grw_some p2 V
              have z3 := fun V => grw_some p3 V
              have z4 := fun V => grw_some p4 V
              clear p0 p1 p2 p3 p4
              refine wp_region_grow ?_ ?_ ?_
              · kernel_rfl
              · kernel_rfl
              · intro hne0
                repeat (go_big_quiet_step ((first | (go_at_call 169; exact grow_call (HH.out _)) | (go_at_call 127; exact grow_call (HCP.out _)))))
                refine wpQuiet_nil ?_
                rintro _ ⟨V, rfl⟩
                have HBV := hideB2 (below_then HB.out (grw_below W V))
                generalize grw W V = w3 at *
                go_wp2
                go_ret
                exact ⟨ret_bool HE.out, HBV.out⟩
            · have HS := urlQ_split ho pa qu po hq h1 h2 h3 h4 h5 h6
              have HUQ := eqB_upt qu
              rw [h1] at HH
              rw [eqB_nilU] at h4
              clear h1 h5
              generalize clnB pa = cp at *
              by_cases h7 : (200 : Int) < (qu.size : Int)
              · have d7 := decide_eq_true h7
                have HE := hideB2 (show urlQ ho pa qu po hq = false by rw [HS, decide_eq_false (show ¬ qu.size ≤ 200 by omega)]; simp)
                clear HS HUQ
                cases hq
                · rw [Bool.false_or, eqB_nilU] at h6
                  go_enter Tryz.func128, Tryz.ntmps128
                  go_wp2
                  generalize hW0 : w.alloc (.cells #[.string ho, .int .i64 po, .string pa, .string qu, .bool false] 139) = W at *
                  clear hW0
                  obtain ⟨p0, p1, p2, p3, p4⟩ := A1.out.u5
                  have z0 := fun V => grw_some p0 V
                  have z1 := fun V => grw_some p1 V
                  have z2 := fun V => grw_some p2 V
                  have z3 := fun V => grw_some p3 V
                  have z4 := fun V => grw_some p4 V
                  clear p0 p1 p2 p3 p4
                  refine wp_region_grow ?_ ?_ ?_
                  · kernel_rfl
                  · kernel_rfl
                  · intro hne0
                    repeat (go_big_quiet_step ((first | (go_at_call 169; exact grow_call (HH.out _)) | (go_at_call 127; exact grow_call (HCP.out _)))))
                    refine wpQuiet_nil ?_
                    rintro _ ⟨V, rfl⟩
                    have HBV := hideB2 (below_then HB.out (grw_below W V))
                    have A2 := A1.out.later (grw_below W V)
                    clear z0 z1 z2 z3 z4 A1
                    generalize grw W V = w3 at *
                    obtain ⟨p0, p1, p2, p3, p4⟩ := A2.u5
                    have z0 := fun V => grw_some p0 V
                    have z1 := fun V => grw_some p1 V
                    have z2 := fun V => grw_some p2 V
                    have z3 := fun V => grw_some p3 V
                    have z4 := fun V => grw_some p4 V
                    have HA2 := hideB2 A2
                    clear p0 p1 p2 p3 p4 A2
                    go_wp2
                    refine wp_region_grow ?_ ?_ ?_
                    · kernel_rfl
                    · kernel_rfl
                    · intro hne1
                      repeat (go_big_quiet_step ((first | (go_at_call 123; exact grow_same (HV.out _)) | (go_at_call 124; exact grow_same (HU.out _)))))
                      refine wpQuiet_nil ?_
                      rintro _ ⟨V2, rfl⟩
                      have HB4 := hideB2 (below_then HBV.out (grw_below w3 V2))
                      have A3 := HA2.out.later (grw_below w3 V2)
                      clear z0 z1 z2 z3 z4 HA2
                      generalize grw w3 V2 = w4 at *
                      obtain ⟨p0, p1, p2, p3, p4⟩ := A3.u5
                      clear A3
                      go_wp2
                      go_ret
                      exact ⟨ret_bool HE.out, HB4.out⟩
                · clear h6
                  go_enter Tryz.func128, Tryz.ntmps128
                  go_wp2
                  generalize hW0 : w.alloc (.cells #[.string ho, .int .i64 po, .string pa, .string qu, .bool true] 139) = W at *
                  clear hW0
                  obtain ⟨p0, p1, p2, p3, p4⟩ := A1.out.u5
                  have z0 := fun V => grw_some p0 V
                  have z1 := fun V => grw_some p1 V
                  have z2 := fun V => grw_some p2 V
                  have z3 := fun V => grw_some p3 V
                  have z4 := fun V => grw_some p4 V
                  clear p0 p1 p2 p3 p4
                  refine wp_region_grow ?_ ?_ ?_
                  · kernel_rfl
                  · kernel_rfl
                  · intro hne0
                    repeat (go_big_quiet_step ((first | (go_at_call 169; exact grow_call (HH.out _)) | (go_at_call 127; exact grow_call (HCP.out _)))))
                    refine wpQuiet_nil ?_
                    rintro _ ⟨V, rfl⟩
                    have HBV := hideB2 (below_then HB.out (grw_below W V))
                    have A2 := A1.out.later (grw_below W V)
                    clear z0 z1 z2 z3 z4 A1
                    generalize grw W V = w3 at *
                    obtain ⟨p0, p1, p2, p3, p4⟩ := A2.u5
                    have z0 := fun V => grw_some p0 V
                    have z1 := fun V => grw_some p1 V
                    have z2 := fun V => grw_some p2 V
                    have z3 := fun V => grw_some p3 V
                    have z4 := fun V => grw_some p4 V
                    have HA2 := hideB2 A2
                    clear p0 p1 p2 p3 p4 A2
                    go_wp2
                    refine wp_region_grow ?_ ?_ ?_
                    · kernel_rfl
                    · kernel_rfl
                    · intro hne1
                      repeat (go_big_quiet_step ((first | (go_at_call 123; exact grow_same (HV.out _)) | (go_at_call 124; exact grow_same (HU.out _)))))
                      refine wpQuiet_nil ?_
                      rintro _ ⟨V2, rfl⟩
                      have HB4 := hideB2 (below_then HBV.out (grw_below w3 V2))
                      have A3 := HA2.out.later (grw_below w3 V2)
                      clear z0 z1 z2 z3 z4 HA2
                      generalize grw w3 V2 = w4 at *
                      obtain ⟨p0, p1, p2, p3, p4⟩ := A3.u5
                      clear A3
                      go_wp2
                      go_ret
                      exact ⟨ret_bool HE.out, HB4.out⟩
              · have d7 := decide_eq_false h7
                rw [decide_eq_true (show qu.size ≤ 200 by omega), Bool.true_and] at HS
                cases h8 : eqB qu ⟨#[]⟩
                · have h8' := h8
                  rw [eqB_nilU] at h8'
                  have hpos : (0 : Int) < (qu.size : Int) := by
                    rcases Nat.eq_zero_or_pos qu.size with h0 | h0
                    · rw [empty_of h0] at h8'; cases h8'
                    · omega
                  rw [decide_eq_true hpos, Bool.true_and] at HV
                  rw [h8, Bool.false_or] at HS
                  rw [h8, Bool.or_false] at h6
                  subst h6
                  clear h8
                  cases h9 : allB vis8 qu
                  · rw [h9] at HV HS
                    have HE := hideB2 (show urlQ ho pa qu po true = false by rw [HS]; simp)
                    clear h9 HS HUQ
                    go_enter Tryz.func128, Tryz.ntmps128
                    go_wp2
                    generalize hW0 : w.alloc (.cells #[.string ho, .int .i64 po, .string pa, .string qu, .bool true] 139) = W at *
                    clear hW0
                    obtain ⟨p0, p1, p2, p3, p4⟩ := A1.out.u5
                    have z0 := fun V => grw_some p0 V
                    have z1 := fun V => grw_some p1 V
                    have z2 := fun V => grw_some p2 V
                    have z3 := fun V => grw_some p3 V
                    have z4 := fun V => grw_some p4 V
                    clear p0 p1 p2 p3 p4
                    refine wp_region_grow ?_ ?_ ?_
                    · kernel_rfl
                    · kernel_rfl
                    · intro hne0
                      repeat (go_big_quiet_step ((first | (go_at_call 169; exact grow_call (HH.out _)) | (go_at_call 127; exact grow_call (HCP.out _)))))
                      refine wpQuiet_nil ?_
                      rintro _ ⟨V, rfl⟩
                      have HBV := hideB2 (below_then HB.out (grw_below W V))
                      have A2 := A1.out.later (grw_below W V)
                      clear z0 z1 z2 z3 z4 A1
                      generalize grw W V = w3 at *
                      obtain ⟨p0, p1, p2, p3, p4⟩ := A2.u5
                      have z0 := fun V => grw_some p0 V
                      have z1 := fun V => grw_some p1 V
                      have z2 := fun V => grw_some p2 V
                      have z3 := fun V => grw_some p3 V
                      have z4 := fun V => grw_some p4 V
                      have HA2 := hideB2 A2
                      clear p0 p1 p2 p3 p4 A2
                      go_wp2
                      refine wp_region_grow ?_ ?_ ?_
                      · kernel_rfl
                      · kernel_rfl
                      · intro hne1
                        repeat (go_big_quiet_step ((first | (go_at_call 123; exact grow_same (HV.out _)) | (go_at_call 124; exact grow_same (HU.out _)))))
                        refine wpQuiet_nil ?_
                        rintro _ ⟨V2, rfl⟩
                        have HB4 := hideB2 (below_then HBV.out (grw_below w3 V2))
                        have A3 := HA2.out.later (grw_below w3 V2)
                        clear z0 z1 z2 z3 z4 HA2
                        generalize grw w3 V2 = w4 at *
                        obtain ⟨p0, p1, p2, p3, p4⟩ := A3.u5
                        clear A3
                        go_wp2
                        go_ret
                        exact ⟨ret_bool HE.out, HB4.out⟩
                  · rw [h9] at HV HS
                    rw [Bool.true_and] at HS
                    clear h9
                    cases h10 : decide (idxS 35 qu < 0)
                    · rw [h10] at HS HUQ
                      have HE := hideB2 (show urlQ ho pa qu po true = false by rw [HS]; simp)
                      have h11 : ((uptS 35 qu).toList == qu.toList) = false := HUQ
                      clear h10 HS HUQ
                      generalize uptS 35 qu = uq at *
                      go_enter Tryz.func128, Tryz.ntmps128
                      go_wp2
                      generalize hW0 : w.alloc (.cells #[.string ho, .int .i64 po, .string pa, .string qu, .bool true] 139) = W at *
                      clear hW0
                      obtain ⟨p0, p1, p2, p3, p4⟩ := A1.out.u5
                      have z0 := fun V => grw_some p0 V
                      have z1 := fun V => grw_some p1 V
                      have z2 := fun V => grw_some p2 V
                      have z3 := fun V => grw_some p3 V
                      have z4 := fun V => grw_some p4 V
                      clear p0 p1 p2 p3 p4
                      refine wp_region_grow ?_ ?_ ?_
                      · kernel_rfl
                      · kernel_rfl
                      · intro hne0
                        repeat (go_big_quiet_step ((first | (go_at_call 169; exact grow_call (HH.out _)) | (go_at_call 127; exact grow_call (HCP.out _)))))
                        refine wpQuiet_nil ?_
                        rintro _ ⟨V, rfl⟩
                        have HBV := hideB2 (below_then HB.out (grw_below W V))
                        have A2 := A1.out.later (grw_below W V)
                        clear z0 z1 z2 z3 z4 A1
                        generalize grw W V = w3 at *
                        obtain ⟨p0, p1, p2, p3, p4⟩ := A2.u5
                        have z0 := fun V => grw_some p0 V
                        have z1 := fun V => grw_some p1 V
                        have z2 := fun V => grw_some p2 V
                        have z3 := fun V => grw_some p3 V
                        have z4 := fun V => grw_some p4 V
                        have HA2 := hideB2 A2
                        clear p0 p1 p2 p3 p4 A2
                        go_wp2
                        refine wp_region_grow ?_ ?_ ?_
                        · kernel_rfl
                        · kernel_rfl
                        · intro hne1
                          repeat (go_big_quiet_step ((first | (go_at_call 123; exact grow_same (HV.out _)) | (go_at_call 124; exact grow_same (HU.out _)))))
                          refine wpQuiet_nil ?_
                          rintro _ ⟨V2, rfl⟩
                          have HB4 := hideB2 (below_then HBV.out (grw_below w3 V2))
                          have A3 := HA2.out.later (grw_below w3 V2)
                          clear z0 z1 z2 z3 z4 HA2
                          generalize grw w3 V2 = w4 at *
                          obtain ⟨p0, p1, p2, p3, p4⟩ := A3.u5
                          clear A3
                          go_wp2
                          go_ret
                          exact ⟨ret_bool HE.out, HB4.out⟩
                    · rw [h10] at HS HUQ
                      rw [Bool.true_and] at HS
                      have HE := hideB2 (show urlQ ho pa qu po true = decide (((utxt ho pa qu po true).size : Int) ≤ 200) by rw [HS]; apply decide_eq_decide.2; omega)
                      have h11 : ((uptS 35 qu).toList == qu.toList) = true := HUQ
                      clear h10 HS HUQ
                      generalize uptS 35 qu = uq at *
                      generalize utxt ho pa qu po true = T at *
                      go_enter Tryz.func128, Tryz.ntmps128
                      go_wp2
                      generalize hW0 : w.alloc (.cells #[.string ho, .int .i64 po, .string pa, .string qu, .bool true] 139) = W at *
                      clear hW0
                      obtain ⟨p0, p1, p2, p3, p4⟩ := A1.out.u5
                      have z0 := fun V => grw_some p0 V
                      have z1 := fun V => grw_some p1 V
                      have z2 := fun V => grw_some p2 V
                      have z3 := fun V => grw_some p3 V
                      have z4 := fun V => grw_some p4 V
                      clear p0 p1 p2 p3 p4
                      refine wp_region_grow ?_ ?_ ?_
                      · kernel_rfl
                      · kernel_rfl
                      · intro hne0
                        repeat (go_big_quiet_step ((first | (go_at_call 169; exact grow_call (HH.out _)) | (go_at_call 127; exact grow_call (HCP.out _)))))
                        refine wpQuiet_nil ?_
                        rintro _ ⟨V, rfl⟩
                        have HBV := hideB2 (below_then HB.out (grw_below W V))
                        have A2 := A1.out.later (grw_below W V)
                        clear z0 z1 z2 z3 z4 A1
                        generalize grw W V = w3 at *
                        obtain ⟨p0, p1, p2, p3, p4⟩ := A2.u5
                        have z0 := fun V => grw_some p0 V
                        have z1 := fun V => grw_some p1 V
                        have z2 := fun V => grw_some p2 V
                        have z3 := fun V => grw_some p3 V
                        have z4 := fun V => grw_some p4 V
                        have HA2 := hideB2 A2
                        clear p0 p1 p2 p3 p4 A2
                        go_wp2
                        refine wp_region_grow ?_ ?_ ?_
                        · kernel_rfl
                        · kernel_rfl
                        · intro hne1
                          repeat (go_big_quiet_step ((first | (go_at_call 123; exact grow_same (HV.out _)) | (go_at_call 124; exact grow_same (HU.out _)))))
                          refine wpQuiet_nil ?_
                          rintro _ ⟨V2, rfl⟩
                          have HB4 := hideB2 (below_then HBV.out (grw_below w3 V2))
                          have A3 := HA2.out.later (grw_below w3 V2)
                          clear z0 z1 z2 z3 z4 HA2
                          generalize grw w3 V2 = w4 at *
                          obtain ⟨p0, p1, p2, p3, p4⟩ := A3.u5
                          clear A3
                          go_wp2_with (go_at_call 129; refine (HX.out _).mono ?_; rintro e w5 ⟨rfl, hb5⟩)
                          go_ret
                          exact ⟨ret_bool HE.out, below_then HB4.out hb5⟩
                · have h8' := h8
                  rw [eqB_nilU] at h8'
                  rw [h8, Bool.true_or, Bool.true_and] at HS
                  have hqe := eqB_iff.1 h8
                  have h10 : decide (idxS 35 qu < 0) = true := by rw [hqe]; rfl
                  rw [h10] at HS HUQ
                  rw [Bool.true_and] at HS
                  have HE := hideB2 (show urlQ ho pa qu po hq = decide (((utxt ho pa qu po hq).size : Int) ≤ 200) by rw [HS]; apply decide_eq_decide.2; omega)
                  have h11 : ((uptS 35 qu).toList == qu.toList) = true := HUQ
                  clear h10 HS HUQ hqe h8
                  generalize uptS 35 qu = uq at *
                  generalize utxt ho pa qu po hq = T at *
                  clear h6
                  cases hq
                  · have h12 : qu.toList.isEmpty = true := h8'
                    go_enter Tryz.func128, Tryz.ntmps128
                    go_wp2
                    generalize hW0 : w.alloc (.cells #[.string ho, .int .i64 po, .string pa, .string qu, .bool false] 139) = W at *
                    clear hW0
                    obtain ⟨p0, p1, p2, p3, p4⟩ := A1.out.u5
                    have z0 := fun V => grw_some p0 V
                    have z1 := fun V => grw_some p1 V
                    have z2 := fun V => grw_some p2 V
                    have z3 := fun V => grw_some p3 V
                    have z4 := fun V => grw_some p4 V
                    clear p0 p1 p2 p3 p4
                    refine wp_region_grow ?_ ?_ ?_
                    · kernel_rfl
                    · kernel_rfl
                    · intro hne0
                      repeat (go_big_quiet_step ((first | (go_at_call 169; exact grow_call (HH.out _)) | (go_at_call 127; exact grow_call (HCP.out _)))))
                      refine wpQuiet_nil ?_
                      rintro _ ⟨V, rfl⟩
                      have HBV := hideB2 (below_then HB.out (grw_below W V))
                      have A2 := A1.out.later (grw_below W V)
                      clear z0 z1 z2 z3 z4 A1
                      generalize grw W V = w3 at *
                      obtain ⟨p0, p1, p2, p3, p4⟩ := A2.u5
                      have z0 := fun V => grw_some p0 V
                      have z1 := fun V => grw_some p1 V
                      have z2 := fun V => grw_some p2 V
                      have z3 := fun V => grw_some p3 V
                      have z4 := fun V => grw_some p4 V
                      have HA2 := hideB2 A2
                      clear p0 p1 p2 p3 p4 A2
                      go_wp2
                      refine wp_region_grow ?_ ?_ ?_
                      · kernel_rfl
                      · kernel_rfl
                      · intro hne1
                        repeat (go_big_quiet_step ((first | (go_at_call 123; exact grow_same (HV.out _)) | (go_at_call 124; exact grow_same (HU.out _)))))
                        refine wpQuiet_nil ?_
                        rintro _ ⟨V2, rfl⟩
                        have HB4 := hideB2 (below_then HBV.out (grw_below w3 V2))
                        have A3 := HA2.out.later (grw_below w3 V2)
                        clear z0 z1 z2 z3 z4 HA2
                        generalize grw w3 V2 = w4 at *
                        obtain ⟨p0, p1, p2, p3, p4⟩ := A3.u5
                        clear A3
                        go_wp2_with (go_at_call 129; refine (HX.out _).mono ?_; rintro e w5 ⟨rfl, hb5⟩)
                        go_ret
                        exact ⟨ret_bool HE.out, below_then HB4.out hb5⟩
                  · have h12 : qu.toList.isEmpty = true := h8'
                    go_enter Tryz.func128, Tryz.ntmps128
                    go_wp2
                    generalize hW0 : w.alloc (.cells #[.string ho, .int .i64 po, .string pa, .string qu, .bool true] 139) = W at *
                    clear hW0
                    obtain ⟨p0, p1, p2, p3, p4⟩ := A1.out.u5
                    have z0 := fun V => grw_some p0 V
                    have z1 := fun V => grw_some p1 V
                    have z2 := fun V => grw_some p2 V
                    have z3 := fun V => grw_some p3 V
                    have z4 := fun V => grw_some p4 V
                    clear p0 p1 p2 p3 p4
                    refine wp_region_grow ?_ ?_ ?_
                    · kernel_rfl
                    · kernel_rfl
                    · intro hne0
                      repeat (go_big_quiet_step ((first | (go_at_call 169; exact grow_call (HH.out _)) | (go_at_call 127; exact grow_call (HCP.out _)))))
                      refine wpQuiet_nil ?_
                      rintro _ ⟨V, rfl⟩
                      have HBV := hideB2 (below_then HB.out (grw_below W V))
                      have A2 := A1.out.later (grw_below W V)
                      clear z0 z1 z2 z3 z4 A1
                      generalize grw W V = w3 at *
                      obtain ⟨p0, p1, p2, p3, p4⟩ := A2.u5
                      have z0 := fun V => grw_some p0 V
                      have z1 := fun V => grw_some p1 V
                      have z2 := fun V => grw_some p2 V
                      have z3 := fun V => grw_some p3 V
                      have z4 := fun V => grw_some p4 V
                      have HA2 := hideB2 A2
                      clear p0 p1 p2 p3 p4 A2
                      go_wp2
                      refine wp_region_grow ?_ ?_ ?_
                      · kernel_rfl
                      · kernel_rfl
                      · intro hne1
                        repeat (go_big_quiet_step ((first | (go_at_call 123; exact grow_same (HV.out _)) | (go_at_call 124; exact grow_same (HU.out _)))))
                        refine wpQuiet_nil ?_
                        rintro _ ⟨V2, rfl⟩
                        have HB4 := hideB2 (below_then HBV.out (grw_below w3 V2))
                        have A3 := HA2.out.later (grw_below w3 V2)
                        clear z0 z1 z2 z3 z4 HA2
                        generalize grw w3 V2 = w4 at *
                        obtain ⟨p0, p1, p2, p3, p4⟩ := A3.u5
                        clear A3
                        go_wp2_with (go_at_call 129; refine (HX.out _).mono ?_; rintro e w5 ⟨rfl, hb5⟩)
                        go_ret
                        exact ⟨ret_bool HE.out, below_then HB4.out hb5⟩
        · have HE := hideB2 (show urlQ ho pa qu po hq = false by unfold urlQ; rw [h4]; simp)
          rw [h1] at HH
          rw [eqB_nilU] at h4
          clear h1
          go_enter Tryz.func128, Tryz.ntmps128
          go_wp2
          generalize hW0 : w.alloc (.cells #[.string ho, .int .i64 po, .string pa, .string qu, .bool hq] 139) = W at *
          clear hW0
          obtain ⟨p0, p1, p2, p3, p4⟩ := A1.out.u5
          have z0 := fun V => grw_some p0 V
          have z1 := fun V => grw_some p1 V
          have z2 := fun V => grw_some p2 V
          have z3 := fun V => grw_some p3 V
          have z4 := fun V => grw_some p4 V
          clear p0 p1 p2 p3 p4
          refine wp_region_grow ?_ ?_ ?_
          · kernel_rfl
          · kernel_rfl
          · intro hne0
            repeat (go_big_quiet_step ((first | (go_at_call 169; exact grow_call (HH.out _)) | (go_at_call 127; exact grow_call (HCP.out _)))))
            refine wpQuiet_nil ?_
            rintro _ ⟨V, rfl⟩
            have HBV := hideB2 (below_then HB.out (grw_below W V))
            generalize grw W V = w3 at *
            go_wp2
            go_ret
            exact ⟨ret_bool HE.out, HBV.out⟩
set_option maxHeartbeats 2000000 in
theorem sUrlText_any (ho pa qu : ByteArray) (po : Int) (hq : Bool) (w : World) (hho : ho.size ≤ 1048576) (hpa : pa.size ≤ 1048576) (hqu : qu.size ≤ 1048576) :
    Calls Tryz.prog 98 #[.agg #[.string ho, .int .i64 po, .string pa, .string qu, .bool hq]] w fun e w' => e = .returned (.string (textB ho pa qu po hq)) ∧ Below w.heap.size w w' := by
  have HB := hideB2 (below_a1 w (.cells #[.string ho, .int .i64 po, .string pa, .string qu, .bool hq] 139))
  have A1 := hideB2 (Blk.new w #[.string ho, .int .i64 po, .string pa, .string qu, .bool hq] 139)
  have HU := hideB2 (fun W => sUrlOk_any ho pa qu po hq W hho hpa hqu)
  have HX := hideB2 (fun W => l7text_any ho pa qu po hq W hho hpa hqu)
  unfold textB
  generalize utxt ho pa qu po hq = T at *
  cases hh : urlQ ho pa qu po hq
  · rw [hh] at HU
    rw [if_neg (by simp)]
    clear hh
    go_enter Tryz.func98, Tryz.ntmps98
    go_wp2_with (go_at_call 128; refine (HU.out _).mono ?_; rintro e w1 ⟨rfl, hb1⟩)
    go_ret
    exact ⟨rfl, below_then HB.out hb1⟩
  · rw [hh] at HU
    rw [if_pos rfl]
    clear hh
    go_enter Tryz.func98, Tryz.ntmps98
    go_wp2_with (first
      | (go_at_call 128; refine (HU.out _).mono ?_; rintro e w1 ⟨rfl, hb1⟩; obtain ⟨p0, p1, p2, p3, p4⟩ := (A1.out.later hb1).u5)
      | (go_at_call 129; refine (HX.out _).mono ?_; rintro e w2 ⟨rfl, hb2⟩))
    go_ret
    exact ⟨rfl, below_then (below_then HB.out hb1) hb2⟩
end Go.Proofs.YthdgeepedofleaaGreatDoor
namespace Go.Proofs.YthdgeepedofleaaGreatDoor
set_option linter.unusedVariables false
set_option linter.unusedSimpArgs false
open Go.RowKit
/-- The pieces from the last to the first, with a byte between. -/
def turnB (h : ByteArray) (c d : UInt8) : ByteArray := joinS d (splS c h).reverse
theorem sumS_app (a b : List ByteArray) : sumS (a ++ b) = sumS a + sumS b := by
  unfold sumS; rw [List.map_append, List.sum_append]
theorem sumS_rev (l : List ByteArray) : sumS l.reverse = sumS l := by
  unfold sumS; rw [List.map_reverse, List.sum_reverse]
theorem turnB_size (h : ByteArray) (c d : UInt8) : (turnB h c d).size ≤ 2 * h.size + 1 := by
  have h1 := joinS_size d (splS c h).reverse
  have h2 := splS_le c h
  rw [List.length_reverse, sumS_rev] at h1
  unfold turnB
  omega
theorem setCells_row (g : Nat) (t : TypeId) : ∀ (vs : List Value) (o : Nat) (w : World) (cur : Array Value), w.heap[g]? = some (.cells cur t (0, 0)) → o + vs.length ≤ cur.size → (w.setCells g o vs).heap[g]? = some (.cells (cur.toList.take o ++ vs ++ cur.toList.drop (o + vs.length)).toArray t (0, 0))
  | [], o, w, cur, h, hl => by
    show w.heap[g]? = _
    rw [h]
    simp
  | v :: r, o, w, cur, h, hl => by
    have hb : Blk w g cur t := h
    have h1 : (w.setCell ⟨g, o, none⟩ v).heap[g]? = some (.cells (cur.setIfInBounds o v) t (0, 0)) := hb.set o v
    have hlen : o < cur.toList.length := by simp at hl ⊢; omega
    have ih := setCells_row g t r (o + 1) (w.setCell ⟨g, o, none⟩ v) _ h1 (by simp at hl ⊢; omega)
    show ((w.setCell ⟨g, o, none⟩ v).setCells g (o + 1) r).heap[g]? = _
    rw [ih]
    congr 3
    rw [Array.toList_setIfInBounds]
    rw [List.take_succ_eq_append_getElem (by rw [List.length_set]; exact hlen), List.getElem_set_self, List.take_set_of_le (Nat.le_refl _), List.drop_set_of_lt (by omega)]
    simp [Nat.add_assoc, Nat.add_comm 1]
theorem below_setCells {B g : Nat} {w0 : World} : ∀ {w : World}, Below B w0 w → B ≤ g → ∀ (vs : List Value) (o : Nat), Below B w0 (w.setCells g o vs)
  | _, h, _, [], _ => h
  | _, h, hg, v :: r, o => below_setCells (h.setCell (p := ⟨g, o, none⟩) hg v) hg r (o + 1)
/-- The same, as the specification puts it together: no byte ahead while there is nothing. -/
def trnS (d : UInt8) (s x : ByteArray) : ByteArray := (if s.size = 0 then s else s ++ (⟨#[d]⟩ : ByteArray)) ++ x
def trnF (d : UInt8) (l : List ByteArray) : ByteArray := l.foldl (trnS d) ⟨#[]⟩
theorem trnF_snoc (d : UInt8) (l : List ByteArray) (x : ByteArray) : trnF d (l ++ [x]) = trnS d (trnF d l) x := by simp [trnF]
theorem trnF_from (d : UInt8) : ∀ (l : List ByteArray) (s : ByteArray), s.size ≠ 0 → l.foldl (trnS d) s = s ++ (⟨(tailS d l).toArray⟩ : ByteArray)
  | [], s, _ => by rw [List.foldl_nil]; exact (bytes_nil_right s).symm
  | x :: r, s, h => by
    rw [List.foldl_cons]
    have e : trnS d s x = (s ++ (⟨#[d]⟩ : ByteArray)) ++ x := by unfold trnS; rw [if_neg h]
    rw [e, trnF_from d r _ (by rw [ByteArray.size_append, ByteArray.size_append]; omega)]
    apply bytes_ext
    rw [Go.Joins.data_append, Go.Joins.data_append, Go.Joins.data_append, Go.Joins.data_append]
    show _ = s.data.toList ++ tailS d (x :: r)
    rw [tailS_cons]
    simp
theorem trnF_join (d : UInt8) (x : ByteArray) (r : List ByteArray) (h : x.size ≠ 0) : trnF d (x :: r) = joinS d (x :: r) := by
  unfold trnF
  rw [List.foldl_cons]
  have e : trnS d ⟨#[]⟩ x = x := by unfold trnS; rw [if_pos (show (⟨#[]⟩ : ByteArray).size = 0 from rfl)]; exact bytes_nil_left x
  rw [e, trnF_from d r x h]
  apply bytes_ext
  have h2 := joinS_tail d x r
  rw [tailS_cons] at h2
  rw [Go.Joins.data_append]
  show x.data.toList ++ tailS d r = _
  injection h2 with _ h2
  exact h2.symm
theorem trnF_size (d : UInt8) (l : List ByteArray) : (trnF d l).size ≤ l.length + sumS l := by
  refine snoc_ind (p := fun l => (trnF d l).size ≤ l.length + sumS l) ?_ ?_ l
  · show (0 : Nat) ≤ _; omega
  · intro q x ih
    rw [trnF_snoc]
    have e : sumS (q ++ [x]) = sumS q + x.size := by simp [sumS]
    rw [List.length_append, List.length_singleton, e]
    unfold trnS
    split
    · rw [ByteArray.size_append]; omega
    · rw [ByteArray.size_append, ByteArray.size_append]
      have e1 : (⟨#[d]⟩ : ByteArray).size = 1 := rfl
      omega
def turnS (h : ByteArray) (c d : UInt8) : ByteArray := trnF d (splS c h).reverse
end Go.Proofs.YthdgeepedofleaaGreatDoor
namespace Go.Proofs.YthdgeepedofleaaGreatDoor
set_option linter.unusedVariables false
set_option linter.unusedSimpArgs false
open Go.RowKit
def surtB (ho pa qu : ByteArray) (po : Int) (hq : Bool) : ByteArray := if urlQ ho pa qu po hq = true then ((((turnB ho 46 44 ++ portB po) ++ (⟨#[41]⟩ : ByteArray)) ++ pa) ++ qryB qu hq) else ⟨#[]⟩
theorem size_nil {x : ByteArray} (h : x.size = 0) : x = ⟨#[]⟩ := by
  apply bytes_ext
  exact List.eq_nil_of_length_eq_zero (by rw [len_data]; exact h)
theorem turnS_ok (h : ByteArray) (d : UInt8) (hq : hostQ h = true) : turnS h 46 d = turnB h 46 d := by
  unfold turnS turnB
  have hp : (splS 46 h).any (fun x => eqB x ⟨#[]⟩) = false := by
    unfold hostQ at hq
    rw [Bool.and_eq_true] at hq
    simpa using hq.2
  cases hr : (splS 46 h).reverse with
  | nil => rfl
  | cons x r =>
    refine trnF_join d x r ?_
    intro h0
    rw [List.any_eq_false] at hp
    have hm : x ∈ splS 46 h := by
      have : x ∈ (splS 46 h).reverse := by rw [hr]; exact List.mem_cons_self
      exact List.mem_reverse.1 this
    exact hp x hm (by rw [size_nil h0]; exact eqB_self _)
end Go.Proofs.YthdgeepedofleaaGreatDoor
namespace Go.Proofs.YthdgeepedofleaaGreatDoor
set_option linter.unusedVariables false
set_option linter.unusedSimpArgs false
open Go.RowKit
/-- An address. -/
structure Ur where
  ho : ByteArray
  pa : ByteArray
  qu : ByteArray
  po : Int
  hq : Bool
def ur0 : Ur := ⟨⟨#[]⟩, ⟨#[]⟩, ⟨#[]⟩, 0, false⟩
def valU (u : Ur) : Value := .agg #[.string u.ho, .int .i64 u.po, .string u.pa, .string u.qu, .bool u.hq]
def urQ (u : Ur) : Bool := urlQ u.ho u.pa u.qu u.po u.hq
/-- The authority: up to the first / or ?. -/
def auU (r : ByteArray) : ByteArray := uptS 47 (uptS 63 r)
theorem ext_all (s : ByteArray) : s.extract 0 s.size = s := by
  apply bytes_ext
  rw [Lib.extract_data, List.drop_zero]
  exact List.take_of_length_le (by rw [len_data]; omega)
theorem auU_size (r : ByteArray) : (auU r).size ≤ r.size := Nat.le_trans (uptS_size _ _) (uptS_size _ _)
theorem auU_at {r : ByteArray} {i : Nat} (hi : i < r.size) (h0 : ∀ j, j < i → at8 r j ≠ 47 ∧ at8 r j ≠ 63) (h : at8 r i = 47 ∨ at8 r i = 63) : auU r = r.extract 0 i := by
  have pre : ∀ k, i ≤ k → k ≤ r.size → ∀ j, j < i → at8 (r.extract 0 k) j = at8 r j := fun k hk hk2 j hj => by
    rw [at8_extS hk2 (by omega), Nat.zero_add]
  unfold auU
  rcases h with h | h
  · rcases idxS_cases 63 r with h1 | ⟨k, h1, hk⟩
    · rw [uptS_none h1]
      exact uptS_some (idxS_of hi h (fun j hj => (h0 j hj).1))
    · obtain ⟨g1, g2, g3⟩ := idxS_some h1
      have hik : i < k := by
        rcases Nat.lt_trichotomy k i with h2 | h2 | h2
        · exact absurd g2 (h0 k h2).2
        · subst h2; rw [h] at g2; cases g2
        · exact h2
      rw [uptS_some h1]
      have e1 : idxS 47 (r.extract 0 k) = (i : Int) := by
        refine idxS_of (by rw [ByteArray.size_extract]; omega) ?_ ?_
        · rw [at8_extS (by omega) (by omega), Nat.zero_add]; exact h
        · intro j hj; rw [pre k (by omega) (by omega) j hj]; exact (h0 j hj).1
      rw [uptS_some e1, ByteArray.extract_extract]
      congr 1; omega
  · rw [uptS_some (idxS_of hi h (fun j hj => (h0 j hj).2))]
    refine (uptS_none (idxS_miss ?_))
    intro j hj
    have hj2 : j < i := by rw [ByteArray.size_extract] at hj; omega
    rw [pre i (Nat.le_refl _) (by omega) j hj2]
    exact (h0 j hj2).1
theorem auU_none {r : ByteArray} (h0 : ∀ j, j < r.size → at8 r j ≠ 47 ∧ at8 r j ≠ 63) : auU r = r := by
  unfold auU
  rw [uptS_none (idxS_miss (fun j hj => (h0 j hj).2))]
  exact uptS_none (idxS_miss (fun j hj => (h0 j hj).1))
theorem auU_no (r : ByteArray) : idxS 47 (auU r) = -1 ∧ idxS 63 (auU r) = -1 := by
  have key : ∀ (c : UInt8) (s : ByteArray), idxS c (uptS c s) = -1 := by
    intro c s
    rcases idxS_cases c s with h | ⟨i, h, hi⟩
    · rw [uptS_none h]; exact h
    · obtain ⟨g1, g2, g3⟩ := idxS_some h
      rw [uptS_some h]
      refine idxS_miss (fun j hj => ?_)
      have : j < i := by rw [ByteArray.size_extract] at hj; omega
      rw [at8_extS (by omega) (by omega), Nat.zero_add]
      exact g3 j this
  refine ⟨key 47 _, ?_⟩
  unfold auU
  have h63 := key 63 r
  generalize uptS 63 r = f at *
  rcases idxS_cases 47 f with h | ⟨i, h, hi⟩
  · rw [uptS_none h]; exact h63
  · rw [uptS_some h]
    refine idxS_miss (fun j hj => ?_)
    have h2 : j < i := by rw [ByteArray.size_extract] at hj; omega
    rw [at8_extS (by omega) (by omega), Nat.zero_add]
    exact idxS_none h63 j (by omega)
/-- The rest, and how it is cut at its ?. -/
def reU (r : ByteArray) : ByteArray := r.extract (auU r).size r.size
theorem idx_shift {c : UInt8} {r : ByteArray} {n : Nat} (hn : n ≤ r.size) (h0 : ∀ j, j < n → at8 r j ≠ c) : (idxS c (r.extract n r.size) = -1 ∧ idxS c r = -1) ∨ ∃ i : Nat, idxS c (r.extract n r.size) = (i : Int) ∧ idxS c r = ((n + i : Nat) : Int) ∧ n + i < r.size := by
  have hz : (r.extract n r.size).size = r.size - n := by rw [ByteArray.size_extract]; omega
  rcases idxS_cases c (r.extract n r.size) with h | ⟨i, h, hi⟩
  · left
    refine ⟨h, idxS_miss (fun j hj => ?_)⟩
    rcases Nat.lt_or_ge j n with h1 | h1
    · exact h0 j h1
    · have := idxS_none h (j - n) (by omega)
      rwa [at8_extS (Nat.le_refl _) (by omega), show n + (j - n) = j by omega] at this
  · right
    obtain ⟨g1, g2, g3⟩ := idxS_some h
    refine ⟨i, h, idxS_of (by omega) ?_ ?_, by omega⟩
    · rwa [at8_extS (Nat.le_refl _) (by omega)] at g2
    · intro j hj
      rcases Nat.lt_or_ge j n with h1 | h1
      · exact h0 j h1
      · have := g3 (j - n) (by omega)
        rwa [at8_extS (Nat.le_refl _) (by omega), show n + (j - n) = j by omega] at this
theorem ext_congr {s : ByteArray} {a b a' b' : Nat} (h1 : a = a') (h2 : b = b') : s.extract a b = s.extract a' b' := by rw [h1, h2]
theorem auU_pre (r : ByteArray) : auU r = r.extract 0 (auU r).size := by
  unfold auU
  rcases idxS_cases 63 r with h | ⟨i, h, hi⟩
  · rw [uptS_none h]
    rcases idxS_cases 47 r with g | ⟨k, g, hk⟩
    · rw [uptS_none g]; exact (ext_all r).symm
    · rw [uptS_some g, ByteArray.size_extract]; congr 1; omega
  · rw [uptS_some h]
    rcases idxS_cases 47 (r.extract 0 i) with g | ⟨k, g, hk⟩
    · rw [uptS_none g, ByteArray.size_extract]; congr 1; omega
    · have hz : (r.extract 0 i).size = i := by rw [ByteArray.size_extract]; omega
      rw [uptS_some g, ByteArray.extract_extract, ByteArray.size_extract]
      congr 1 <;> omega
theorem auU_head (r : ByteArray) : ∀ j, j < (auU r).size → at8 r j ≠ 63 := by
  intro j hj
  have h := idxS_none (auU_no r).2 j hj
  have hs := auU_size r
  have e : at8 (auU r) j = at8 r j := by
    have h1 := at8_extS (s := r) (a := 0) (b := (auU r).size) (j := j) hs (by omega)
    rw [← auU_pre r, Nat.zero_add] at h1
    exact h1
  rwa [e] at h
/-- Cut at ? the rest gives the path and the query as the whole does. -/
theorem reU_cut (r : ByteArray) : uptS 63 (reU r) = (uptS 63 r).extract (auU r).size (uptS 63 r).size ∧ bhS 63 (reU r) = bhS 63 r ∧ hasS 63 (reU r) = hasS 63 r ∧ (auU r).size ≤ (uptS 63 r).size := by
  have hs := auU_size r
  have hsu : (auU r).size ≤ (uptS 63 r).size := uptS_size _ _
  rcases idx_shift (c := 63) hs (auU_head r) with ⟨h1, h2⟩ | ⟨i, h1, h2, h3⟩
  · obtain ⟨a1, a2, a3⟩ := cut_none h1
    obtain ⟨b1, b2, b3⟩ := cut_none h2
    unfold reU
    rw [a1, a2, a3, b1, b2, b3]
    rw [b1] at hsu
    exact ⟨rfl, rfl, rfl, hsu⟩
  · obtain ⟨a1, a2, a3⟩ := cut_some h1
    obtain ⟨b1, b2, b3⟩ := cut_some h2
    have hz : (r.extract (auU r).size r.size).size = r.size - (auU r).size := by rw [ByteArray.size_extract]; omega
    unfold reU
    rw [a1, a2, a3, b1, b2, b3]
    rw [b1] at hsu
    refine ⟨?_, ?_, rfl, hsu⟩
    · rw [ByteArray.extract_extract, ByteArray.extract_extract]
      have e2 : (r.extract 0 ((auU r).size + i)).size = (auU r).size + i := by rw [ByteArray.size_extract]; omega
      rw [e2]
      exact ext_congr (by omega) (by omega)
    · rw [hz, ByteArray.extract_extract]
      exact ext_congr (by omega) (by omega)
/-- The parts as they stand. -/
def lsU (a e : ByteArray) : Ur := ⟨uptS 58 a, uptS 63 e, bhS 63 e, if hasS 58 a = true then rdecN (bhS 58 a) else 80, hasS 63 e⟩
def rootB : ByteArray := ⟨#[47]⟩
def rdK (r : ByteArray) : Ur := ⟨foldB (uptS 58 (auU r)), clnB (if (uptS 63 (reU r)).size = 0 then rootB else uptS 63 (reU r)), bhS 63 r, if hasS 58 (auU r) = true then rdecN (bhS 58 (auU r)) else 80, hasS 63 r⟩
def pre7 (s : ByteArray) : Bool := decide (7 ≤ s.size) && eqB (foldB (s.extract 0 7)) schB
def rdA (s : ByteArray) : Bool := targQ s && decide (idxS 35 s < 0) && pre7 s
def rdO (s : ByteArray) : Bool := rdA s && urQ (rdK (s.extract 7 s.size))
def rdU (s : ByteArray) : Ur := if rdO s = true then rdK (s.extract 7 s.size) else ur0
theorem ret_ssU {a b x y : ByteArray} (h1 : x = a) (h2 : y = b) : Ending.returned (.tuple #[.string a, .string b]) = .returned (.tuple #[.string x, .string y]) := by rw [h1, h2]
set_option maxRecDepth 100000 in
set_option maxHeartbeats 4000000 in
theorem cutAuthority_any (r : ByteArray) (w : World) (hs : r.size ≤ 1048576) (hv : ∀ j, j < r.size → (at8 r j).toNat < 128) :
    Calls Tryz.prog 185 #[.string r] w fun e w' => e = .returned (.tuple #[.string (auU r), .string (reU r)]) ∧ Below w.heap.size w w' := by
  have HV := hideB2 hv
  clear hv
  unfold reU
  generalize hA : auU r = A
  have HA := hideB2 hA
  clear hA
  have HI := hideB2 (fun k => (below_a1 w (.stringIter r k) : Below w.heap.size w (w.iter r k)))
  go_enter Tryz.func185, Tryz.ntmps185
  go_wp2
  go_loopg [8, 9] r.size (fun g _ _ wx => ∃ i : Nat, i + g = r.size ∧ wx = w.iter r i ∧ ∀ j, j < i → at8 r j ≠ 47 ∧ at8 r j ≠ 63)
  case atStart => exact ⟨0, by omega, rfl, fun j hj => by omega⟩
  case round =>
    obtain ⟨i, hig, rfl, hall⟩ := hrel
    have HP := hideB2 hall
    clear hall
    cases gk with
    | zero =>
      obtain rfl : i = r.size := by omega
      have hnx := run_next_end (P := Tryz.prog) w r r.size
      have HF := hideB2 (show A = r by rw [← HA.out]; exact auU_none (fun j hj => HP.out j hj))
      have HF2 := hideB2 (show r.extract A.size r.size = ⟨#[]⟩ by rw [HF.out]; exact size_nil (by rw [ByteArray.size_extract]; omega))
      go_wp2
      go_ret2
      exact ⟨ret_ssU HF.out HF2.out, HI.out _⟩
    | succ g =>
      have hi : i < r.size := by omega
      have hat : r[i] = at8 r i := at8_eq r i hi
      have ha : (r[i]).toNat < 128 := by rw [hat]; exact HV.out i hi
      have hnx := fun ty => run_next_ascii (P := Tryz.prog) w r i ty hi ha
      have q47 : ((r[i].toNat : Int) == 47) = (at8 r i == 47) := by rw [hat]; exact u8_beq _ 47
      have q63 : ((r[i].toNat : Int) == 63) = (at8 r i == 63) := by rw [hat]; exact u8_beq _ 63
      clear hat ha
      have c1 : (i : Int) ≤ (r.size : Int) := by omega
      have c0 : (0 : Int) ≤ (i : Int) := by omega
      cases h47 : (at8 r i == 47)
      · rw [h47] at q47
        cases h63 : (at8 r i == 63)
        · rw [h63] at q63
          have HQ := hideB2 (show at8 r i ≠ 47 ∧ at8 r i ≠ 63 from ⟨beq_eq_false_iff_ne.1 h47, beq_eq_false_iff_ne.1 h63⟩)
          clear h47 h63
          go_wp2
          go_roundg g
          case measure => omega
          case rel => exact ⟨i + 1, by omega, rfl, all_succ HP.out HQ.out⟩
        · rw [h63] at q63
          have HF := hideB2 (show A = r.extract 0 i by rw [← HA.out]; exact auU_at hi HP.out (.inr (beq_iff_eq.1 h63)))
          have hz : A.size = i := by rw [HF.out, ByteArray.size_extract]; omega
          have HZ := hideB2 (show r.extract A.size r.size = r.extract i r.size by rw [hz])
          clear h47 h63 hz
          go_wp2
          go_region
          go_wp2
          go_ret2
          exact ⟨ret_ssU HF.out HZ.out, (HI.out _).drew⟩
      · rw [h47] at q47
        have HF := hideB2 (show A = r.extract 0 i by rw [← HA.out]; exact auU_at hi HP.out (.inl (beq_iff_eq.1 h47)))
        have hz : A.size = i := by rw [HF.out, ByteArray.size_extract]; omega
        have HZ := hideB2 (show r.extract A.size r.size = r.extract i r.size by rw [hz])
        clear h47 hz
        go_wp2
        go_region
        go_wp2
        go_ret2
        exact ⟨ret_ssU HF.out HZ.out, (HI.out _).drew⟩
end Go.Proofs.YthdgeepedofleaaGreatDoor
namespace Go.Proofs.YthdgeepedofleaaGreatDoor
set_option linter.unusedVariables false
set_option linter.unusedSimpArgs false
open Go.RowKit
theorem Tryz.infoUrl : (Tryz.prog.info? 139).map (·.size) = some 5 := by kernel_rfl
end Go.Proofs.YthdgeepedofleaaGreatDoor
namespace Go.Proofs.YthdgeepedofleaaGreatDoor
set_option linter.unusedVariables false
set_option linter.unusedSimpArgs false
open Go.RowKit
theorem Blk.set5U {w : World} {g : Nat} {a b c d e : Value} {t : TypeId} (H : Blk w g #[a, b, c, d, e] t) (x0 x1 x2 x3 x4 : Value) : Blk (((((w.setCell ⟨g, 0, none⟩ x0).setCell ⟨g, 1, none⟩ x1).setCell ⟨g, 2, none⟩ x2).setCell ⟨g, 3, none⟩ x3).setCell ⟨g, 4, none⟩ x4) g #[x0, x1, x2, x3, x4] t := by
  have h0 : Blk (w.setCell ⟨g, 0, none⟩ x0) g #[x0, b, c, d, e] t := H.set 0 x0
  have h1 : Blk ((w.setCell ⟨g, 0, none⟩ x0).setCell ⟨g, 1, none⟩ x1) g #[x0, x1, c, d, e] t := h0.set 1 x1
  have h2 : Blk (((w.setCell ⟨g, 0, none⟩ x0).setCell ⟨g, 1, none⟩ x1).setCell ⟨g, 2, none⟩ x2) g #[x0, x1, x2, d, e] t := h1.set 2 x2
  have h3 : Blk ((((w.setCell ⟨g, 0, none⟩ x0).setCell ⟨g, 1, none⟩ x1).setCell ⟨g, 2, none⟩ x2).setCell ⟨g, 3, none⟩ x3) g #[x0, x1, x2, x3, e] t := h2.set 3 x3
  exact h3.set 4 x4
theorem Blk.f5U {w : World} {g : Nat} {c : Array Value} {t : TypeId} (H : Blk w g c t) : w.frozen? ⟨g, 0, none⟩ = false ∧ w.frozen? ⟨g, 1, none⟩ = false ∧ w.frozen? ⟨g, 2, none⟩ = false ∧ w.frozen? ⟨g, 3, none⟩ = false ∧ w.frozen? ⟨g, 4, none⟩ = false := ⟨H.free 0, H.free 1, H.free 2, H.free 3, H.free 4⟩
theorem below_set5 {B g : Nat} {w0 w : World} (H : Below B w0 w) (hg : B ≤ g) (x0 x1 x2 x3 x4 : Value) : Below B w0 (((((w.setCell ⟨g, 0, none⟩ x0).setCell ⟨g, 1, none⟩ x1).setCell ⟨g, 2, none⟩ x2).setCell ⟨g, 3, none⟩ x3).setCell ⟨g, 4, none⟩ x4) := ((((H.setCell (p := ⟨g, 0, none⟩) hg x0).setCell (p := ⟨g, 1, none⟩) hg x1).setCell (p := ⟨g, 2, none⟩) hg x2).setCell (p := ⟨g, 3, none⟩) hg x3).setCell (p := ⟨g, 4, none⟩) hg x4
set_option maxRecDepth 100000 in
set_option maxHeartbeats 4000000 in
theorem looseUrl_any (a e : ByteArray) (w : World) (ha : a.size ≤ 1048576) (he : e.size ≤ 1048576) :
    Calls Tryz.prog 186 #[.string a, .string e] w fun r w' => r = .returned (.agg #[.string (uptS 58 a), .int .i64 (if hasS 58 a = true then rdecN (bhS 58 a) else 80), .string (uptS 63 e), .string (bhS 63 e), .bool (hasS 63 e)]) ∧ Below w.heap.size w w' := by
  have HB := hideB2 (below_a1 w (.cells #[.string ⟨#[]⟩, .int .i64 0, .string ⟨#[]⟩, .string ⟨#[]⟩, .bool false] 139))
  have A0 := hideB2 (Blk.new w #[.string ⟨#[]⟩, .int .i64 0, .string ⟨#[]⟩, .string ⟨#[]⟩, .bool false] 139)
  have H1 := hideB2 (fun W => CutS_any a 58 W (by unfold maxLen; omega))
  have H2 := hideB2 (fun W => CutS_any e 63 W (by unfold maxLen; omega))
  have hz := bhS_size 58 a
  have HD := hideB2 (fun W => ReadDec_any (bhS 58 a) W (by unfold maxLen; omega))
  clear hz
  generalize rdecN (bhS 58 a) = n at *
  generalize rdecOk (bhS 58 a) = okn at *
  generalize bhS 58 a = d at *
  generalize uptS 58 a = h at *
  generalize uptS 63 e = p at *
  generalize bhS 63 e = q at *
  generalize hasS 63 e = b at *
  generalize hasS 58 a = told at *
  cases told
  · rw [if_neg (by simp)]
    go_enter Tryz.func186, Tryz.ntmps186
    go_wp2_with fail
    refine (H1.out _).mono ?_
    rintro e1 w1 ⟨rfl, hb1⟩
    have B1 := Blk.new w1 #[.string h, .int .i64 80, .string ⟨#[]⟩, .string ⟨#[]⟩, .bool false] 139
    have A1 := (A0.out.later hb1).alloc (.cells #[.string h, .int .i64 80, .string ⟨#[]⟩, .string ⟨#[]⟩, .bool false] 139)
    have hb1' := below_then (below_then HB.out hb1) (below_a1 w1 (.cells #[.string h, .int .i64 80, .string ⟨#[]⟩, .string ⟨#[]⟩, .bool false] 139))
    have hlt := (A0.out.later hb1).lt
    clear hb1 HB A0
    go_wp2_with fail
    refine (H2.out _).mono ?_
    rintro e2 w2 ⟨rfl, hb2⟩
    have B2 := B1.later hb2
    have A2 := A1.later hb2
    have HB2 := hideB2 (below_then hb1' hb2)
    obtain ⟨p0, p1, p2, p3, p4⟩ := B2.u5
    obtain ⟨f0, f1, f2, f3, f4⟩ := B2.f5U
    obtain ⟨a0, a1, a2, a3, a4⟩ := A2.u5
    obtain ⟨g0, g1, g2, g3, g4⟩ := A2.f5U
    have HA2 := hideB2 A2
    clear B1 B2 A1 A2 hb1' hb2 H1 H2
    generalize w1.heap.size = G at *
    have hne : G ≠ w.heap.size := by omega
    have hne' : w.heap.size ≠ G := by omega
    go_wp2
    refine bodyPost_ret (results_cellS rfl _ _ _ rfl ((((HA2.out.other hne 2 _).other hne 3 _).other hne 4 _).set5U _ _ _ _ _) Tryz.underlying139 Tryz.infoUrl) rfl ⟨rfl, ?_⟩
    exact below_set5 (((HB2.out.setCell (p := ⟨G, 2, none⟩) (by show w.heap.size ≤ G; omega) _).setCell (p := ⟨G, 3, none⟩) (by show w.heap.size ≤ G; omega) _).setCell (p := ⟨G, 4, none⟩) (by show w.heap.size ≤ G; omega) _) (Nat.le_refl _) _ _ _ _ _
  · rw [if_pos rfl]
    go_enter Tryz.func186, Tryz.ntmps186
    go_wp2_with fail
    refine (H1.out _).mono ?_
    rintro e1 w1 ⟨rfl, hb1⟩
    have B1 := Blk.new w1 #[.string h, .int .i64 n, .string ⟨#[]⟩, .string ⟨#[]⟩, .bool false] 139
    have A1 := (A0.out.later hb1).alloc (.cells #[.string h, .int .i64 n, .string ⟨#[]⟩, .string ⟨#[]⟩, .bool false] 139)
    have hb1' := below_then (below_then HB.out hb1) (below_a1 w1 (.cells #[.string h, .int .i64 n, .string ⟨#[]⟩, .string ⟨#[]⟩, .bool false] 139))
    have hlt := (A0.out.later hb1).lt
    clear hb1 HB A0
    go_wp2_with (first | (go_at_call 225; refine (HD.out _).mono ?_; rintro e3 w3 ⟨rfl, rfl⟩) | fail)
    refine (H2.out _).mono ?_
    rintro e2 w2 ⟨rfl, hb2⟩
    have B2 := B1.later hb2
    have A2 := A1.later hb2
    have HB2 := hideB2 (below_then hb1' hb2)
    obtain ⟨p0, p1, p2, p3, p4⟩ := B2.u5
    obtain ⟨f0, f1, f2, f3, f4⟩ := B2.f5U
    obtain ⟨a0, a1, a2, a3, a4⟩ := A2.u5
    obtain ⟨g0, g1, g2, g3, g4⟩ := A2.f5U
    have HA2 := hideB2 A2
    clear B1 B2 A1 A2 hb1' hb2 H1 H2
    have hne : w1.heap.size ≠ w.heap.size := by omega
    have hne' : w.heap.size ≠ w1.heap.size := by omega
    generalize w1.heap.size = G at *
    go_wp2
    refine bodyPost_ret (results_cellS rfl _ _ _ rfl ((((HA2.out.other hne 2 _).other hne 3 _).other hne 4 _).set5U _ _ _ _ _) Tryz.underlying139 Tryz.infoUrl) rfl ⟨rfl, ?_⟩
    exact below_set5 (((HB2.out.setCell (p := ⟨G, 2, none⟩) (by show w.heap.size ≤ G; omega) _).setCell (p := ⟨G, 3, none⟩) (by show w.heap.size ≤ G; omega) _).setCell (p := ⟨G, 4, none⟩) (by show w.heap.size ≤ G; omega) _) (Nat.le_refl _) _ _ _ _ _
theorem clnB_size (p : ByteArray) : (clnB p).size ≤ 202 := by
  cases hp : pthQ p
  · rw [clnB_no hp]; show (0 : Nat) ≤ _; omega
  · rw [clnB_yes hp]
    have hz : p.size ≤ 200 := by
      unfold pthQ at hp
      rw [Bool.and_eq_true, Bool.and_eq_true] at hp
      exact (targQ_iff.1 hp.1.1).2.1
    have h1 := evB_size (p.extract 1 p.size)
    have h2 : (p.extract 1 p.size).size ≤ p.size := by rw [ByteArray.size_extract]; omega
    generalize evB (p.extract 1 p.size) = y at *
    have h3 := splS_len 47 y
    have h4 := splS_sum 47 y.size y (Nat.le_refl _)
    generalize splS 47 y = L at *
    have h5 := keptL_le L
    generalize keptL L = K at *
    unfold clnL
    split
    · show (1 : Nat) ≤ _; omega
    · show (tailS 47 K).toArray.size ≤ _
      rw [List.size_toArray, tailS_len]
      omega
theorem ext7 {s : ByteArray} (h : 7 ≤ s.size) : (foldB s).extract 0 7 = foldB (s.extract 0 7) := by
  apply bytes_ext
  rw [Lib.extract_data]
  unfold foldB foldL
  rw [Lib.extract_data]
  simp [List.map_take]
set_option maxHeartbeats 1000000 in
theorem HasPre7_any (s : ByteArray) (w : World) (hs : s.size ≤ maxLen) :
    Calls Tryz.prog 95 #[.string (foldB s), .string ⟨#[104, 116, 116, 112, 58, 47, 47]⟩] w fun e w' => e = .returned (.bool (pre7 s)) ∧ w' = w := by
  unfold maxLen at hs
  have hz := foldB_size s
  by_cases h7 : 7 ≤ s.size
  · have e1 : pre7 s = ((foldB s).extract 0 7).toList.beq [104, 116, 116, 112, 58, 47, 47] := by
      unfold pre7
      rw [decide_eq_true h7, Bool.true_and, ext7 h7]
      unfold eqB
      rw [ByteArray.toList_eq schB]
      rfl
    have h1 : (7 : Int) ≤ ((foldB s).size : Int) := by omega
    have h2 : (((foldB s).extract 0 7).toList == [104, 116, 116, 112, 58, 47, 47]) = pre7 s := e1.symm
    clear e1 h7
    generalize foldB s = x at *
    generalize pre7 s = q at *
    go_enter Tryz.func95, Tryz.ntmps95
    go_wp2
    go_ret
    exact ⟨by first | rfl | (rw [h2]), rfl⟩
  · have e1 : pre7 s = false := by unfold pre7; rw [decide_eq_false h7]; rfl
    have h1 : ¬ (7 : Int) ≤ ((foldB s).size : Int) := by omega
    rw [e1]
    clear e1 h7
    generalize foldB s = x at *
    go_enter Tryz.func95, Tryz.ntmps95
    go_wp2
    go_ret
    exact ⟨rfl, rfl⟩
theorem rdA_no {s : ByteArray} (h : rdA s = false) : rdO s = false ∧ rdU s = ur0 := by
  have h1 : rdO s = false := by unfold rdO; rw [h]; rfl
  exact ⟨h1, by unfold rdU; rw [h1]; rfl⟩
theorem rdA_yes {s : ByteArray} (h : rdA s = true) : rdO s = urQ (rdK (s.extract 7 s.size)) ∧ rdU s = if urQ (rdK (s.extract 7 s.size)) = true then rdK (s.extract 7 s.size) else ur0 := by
  have h1 : rdO s = urQ (rdK (s.extract 7 s.size)) := by unfold rdO; rw [h, Bool.true_and]
  exact ⟨h1, by unfold rdU; rw [h1]⟩
theorem vis_at {s : ByteArray} (h : targQ s = true) : ∀ j, j < s.size → (at8 s j).toNat < 128 := by
  intro j hj
  have hl : j < s.data.toList.length := by rw [len_data]; exact hj
  have e : s.data.toList[j]? = some (at8 s j) := by
    unfold at8
    rw [List.getD, List.getElem?_eq_getElem hl, Option.getD_some]
  exact vis_ascii h j _ e
set_option maxRecDepth 100000 in
set_option maxHeartbeats 8000000 in
theorem ReadUrl_any (s : ByteArray) (w : World) (hs : s.size ≤ 1048576) (htab : Tab10 w) :
    Calls Tryz.prog 138 #[.string s] w fun e w' => e = .returned (.tuple #[valU (rdU s), .bool (rdO s)]) ∧ Below w.heap.size w w' := by
  have HB := hideB2 (below_a1 w (.cells #[.string ⟨#[]⟩, .int .i64 0, .string ⟨#[]⟩, .string ⟨#[]⟩, .bool false] 139))
  have A0 := hideB2 (Blk.new w #[.string ⟨#[]⟩, .int .i64 0, .string ⟨#[]⟩, .string ⟨#[]⟩, .bool false] 139)
  have HT := hideB2 htab
  have H1 := hideB2 (fun W => targetOk_any s W (by unfold maxLen; omega))
  have H2 := hideB2 (fun W => Any.strings_Contains_one Tryz.lays144 s 35 W)
  change Hid (∀ W, Calls _ _ _ W fun e w' => e = .returned (.bool (decide (0 ≤ idxS 35 s))) ∧ w' = W) at H2
  have H3 := hideB2 (fun W => Fold_any s W (by unfold maxLen; omega))
  have H4 := hideB2 (fun W => HasPre7_any s W (by unfold maxLen; omega))
  clear htab
  cases q1 : targQ s
  · obtain ⟨e1, e2⟩ := rdA_no (s := s) (by unfold rdA; rw [q1]; rfl)
    rw [e1, e2]
    rw [q1] at H1
    clear e1 e2 q1
    go_enter Tryz.func138, Tryz.ntmps138
    go_wp2_with (go_at_call 182; refine (H1.out _).mono ?_; rintro e w' ⟨rfl, rfl⟩)
    refine bodyPost_ret (results_cellT rfl _ _ _ rfl (Blk.new w _ _) Tryz.underlying139 Tryz.infoUrl) rfl ⟨rfl, HB.out⟩
  · rw [q1] at H1
    by_cases q2 : 0 ≤ idxS 35 s
    · obtain ⟨e1, e2⟩ := rdA_no (s := s) (by unfold rdA; rw [decide_eq_false (show ¬ idxS 35 s < 0 by omega)]; simp)
      rw [e1, e2]
      rw [decide_eq_true q2] at H2
      clear e1 e2 q1 q2
      go_enter Tryz.func138, Tryz.ntmps138
      go_wp2_with (first | (go_at_call 182; refine (H1.out _).mono ?_; rintro e w' ⟨rfl, rfl⟩) | (go_at_call 183; refine (H2.out _).mono ?_; rintro e w' ⟨rfl, rfl⟩))
      refine bodyPost_ret (results_cellT rfl _ _ _ rfl (Blk.new w _ _) Tryz.underlying139 Tryz.infoUrl) rfl ⟨rfl, HB.out⟩
    · rw [decide_eq_false q2] at H2
      cases q3 : pre7 s
      · obtain ⟨e1, e2⟩ := rdA_no (s := s) (by unfold rdA; rw [q3]; simp)
        rw [e1, e2]
        rw [q3] at H4
        clear e1 e2 q1 q2 q3
        go_enter Tryz.func138, Tryz.ntmps138
        go_wp2_with (first | (go_at_call 182; refine (H1.out _).mono ?_; rintro e w' ⟨rfl, rfl⟩) | (go_at_call 183; refine (H2.out _).mono ?_; rintro e w' ⟨rfl, rfl⟩) | (go_at_call 184; refine (H3.out _).mono ?_; rintro e w1 ⟨rfl, hb1⟩; have A1 := hideB2 (A0.out.later hb1); have HB1 := hideB2 (below_then HB.out hb1); obtain ⟨a0, a1, a2, a3, a4⟩ := A1.out.u5; obtain ⟨g0, g1, g2, g3, g4⟩ := A1.out.f5U) | (go_at_call 95; refine (H4.out _).mono ?_; rintro e w' ⟨rfl, rfl⟩))
        refine bodyPost_ret (results_cellT rfl _ _ _ rfl (A1.out.set5U _ _ _ _ _) Tryz.underlying139 Tryz.infoUrl) rfl ⟨rfl, ?_⟩
        exact below_set5 HB1.out (Nat.le_refl _) _ _ _ _ _
      · rw [q3] at H4
        obtain ⟨e1, e2⟩ := rdA_yes (s := s) (by unfold rdA; rw [q1, q3, decide_eq_true (show idxS 35 s < 0 by omega)]; rfl)
        generalize hU : rdU s = U at *
        generalize hO : rdO s = O at *
        have HUO := hideB2 (And.intro e1 e2)
        clear hU hO
        have h7 : 7 ≤ s.size := by unfold pre7 at q3; rw [Bool.and_eq_true, decide_eq_true_eq] at q3; exact q3.1
        have hva := vis_at q1
        have hrz : (s.extract 7 s.size).size = s.size - 7 := by rw [ByteArray.size_extract]; omega
        have hrv : ∀ j, j < (s.extract 7 s.size).size → (at8 (s.extract 7 s.size) j).toNat < 128 := by
          intro j hj
          rw [at8_extS (Nat.le_refl _) (by omega)]
          exact hva _ (by omega)
        have c1 : (7 : Int) ≤ (s.size : Int) := by omega
        clear e1 e2 q1 q2 q3 hva
        generalize hrr : s.extract 7 s.size = r at *
        have H5 := hideB2 (fun W => cutAuthority_any r W (by omega) hrv)
        have haz := auU_size r
        have hrz2 : (reU r).size ≤ r.size := by unfold reU; rw [ByteArray.size_extract]; omega
        have H6 := hideB2 (fun W => looseUrl_any (auU r) (reU r) W (by omega) (by omega))
        obtain ⟨k1, k2, k3, k4⟩ := reU_cut r
        have hk : rdK r = ⟨foldB (uptS 58 (auU r)), clnB (if (uptS 63 (reU r)).size = 0 then rootB else uptS 63 (reU r)), bhS 63 (reU r), if hasS 58 (auU r) = true then rdecN (bhS 58 (auU r)) else 80, hasS 63 (reU r)⟩ := by unfold rdK; rw [k2, k3]
        have HK := hideB2 hk
        have z1 := uptS_size 58 (auU r)
        have z2 := uptS_size 63 (reU r)
        have z3 := bhS_size 63 (reU r)
        clear k1 k2 k3 k4 hk hrv
        generalize rdK r = KK at *
        generalize (if hasS 58 (auU r) = true then rdecN (bhS 58 (auU r)) else 80) = po at *
        generalize uptS 58 (auU r) = ho at *
        generalize uptS 63 (reU r) = pt at *
        generalize bhS 63 (reU r) = qu at *
        generalize hasS 63 (reU r) = hq at *
        generalize auU r = au at *
        generalize reU r = re at *
        have H7 := hideB2 (fun W => Fold_any ho W (by unfold maxLen; omega))
        have hfz := foldB_size ho
        generalize foldB ho = fo at *
        have hpz : (if pt.size = 0 then rootB else pt).size ≤ 1048576 := by
          split
          · show (1 : Nat) ≤ _; omega
          · omega
        have H8 := hideB2 (fun W => CleanPath_any (if pt.size = 0 then rootB else pt) W (by unfold maxLen; omega))
        have hcz : (clnB (if pt.size = 0 then rootB else pt)).size ≤ 1048576 := by
          have := clnB_size (if pt.size = 0 then rootB else pt)
          omega
        have HKE := hideB2 (show urQ KK = urlQ fo (clnB (if pt.size = 0 then rootB else pt)) qu po hq by rw [HK.out]; rfl)
        generalize clnB (if pt.size = 0 then rootB else pt) = cp at *
        have H9 := hideB2 (fun W (h : Tab10 W) => UrlOk_any fo cp qu po hq W h (by omega) hcz (by omega))
        rw [← HKE.out] at H9
        go_enter Tryz.func138, Tryz.ntmps138
        go_wp2_with (first | (go_at_call 182; refine (H1.out _).mono ?_; rintro e w' ⟨rfl, rfl⟩) | (go_at_call 183; refine (H2.out _).mono ?_; rintro e w' ⟨rfl, rfl⟩) | (go_at_call 184; refine (H3.out _).mono ?_; rintro e w1 ⟨rfl, hb1⟩) | (go_at_call 95; refine (H4.out _).mono ?_; rintro e w' ⟨rfl, rfl⟩) | (go_at_call 185; (try rw [hrr]); refine (H5.out _).mono ?_; rintro e w2 ⟨rfl, hb2⟩) | fail)
        refine (H6.out _).mono ?_
        rintro e w3 ⟨rfl, hb3⟩
        have A3 := ((A0.out.later hb1).later hb2).later hb3
        have hb3' := below_then (below_then (below_then HB.out hb1) hb2) hb3
        have hlt := A3.lt
        have B3 := Blk.new w3 #[.string ho, .int .i64 po, .string pt, .string qu, .bool hq] 139
        have A3' := A3.alloc (.cells #[.string ho, .int .i64 po, .string pt, .string qu, .bool hq] 139)
        have hb3'' := below_then hb3' (below_a1 w3 (.cells #[.string ho, .int .i64 po, .string pt, .string qu, .bool hq] 139))
        clear hb1 hb2 hb3 A3 A0 HB H1 H2 H3 H4 H5 H6
        go_wp2_with fail
        refine (H7.out _).mono ?_
        rintro e w4 ⟨rfl, hb4⟩
        have B4 := B3.later hb4
        have A4 := A3'.later hb4
        have HB4 := hideB2 (below_then hb3'' hb4)
        have hne : w3.heap.size ≠ w.heap.size := by omega
        have hge : w.heap.size ≤ w3.heap.size := by omega
        obtain ⟨p0, p1, p2, p3, p4⟩ := B4.u5
        obtain ⟨f0, f1, f2, f3, f4⟩ := B4.f5U
        have HBB4 := hideB2 B4
        have HA4 := hideB2 A4
        clear B3 A3' hb3'' hb3' hb4 B4 A4 hlt H7
        generalize w3.heap.size = G at *
        obtain rfl := HK.out
        clear HK HKE
        generalize urQ ⟨fo, cp, qu, po, hq⟩ = okv at *
        by_cases hp0 : pt.size = 0
        · have hne0 := empty_of hp0
          rw [if_pos hp0] at H8
          unfold rootB at H8
          clear hp0 hpz
          go_wp2_with fail
          refine (H8.out _).mono ?_
          rintro e w5 ⟨rfl, hb5⟩
          have B5 : Blk w5 G #[.string fo, .int .i64 po, .string ⟨#[47]⟩, .string qu, .bool hq] 139 := ((HBB4.out.set 0 _).set 2 _).later hb5
          have A5 : Blk w5 w.heap.size #[.string ⟨#[]⟩, .int .i64 0, .string ⟨#[]⟩, .string ⟨#[]⟩, .bool false] 139 := ((HA4.out.other hne 0 _).other hne 2 _).later hb5
          have HB5 := hideB2 (below_then ((HB4.out.setCell (p := ⟨G, 0, none⟩) hge _).setCell (p := ⟨G, 2, none⟩) hge _) hb5)
          clear p0 p1 p2 p3 p4 f0 f1 f2 f3 f4 hb5 HBB4 HA4 HB4 H8
          obtain ⟨p0, p1, p2, p3, p4⟩ := B5.u5
          obtain ⟨f0, f1, f2, f3, f4⟩ := B5.f5U
          have HBB5 := hideB2 B5
          have HA5 := hideB2 A5
          clear B5 A5
          go_wp2_with fail
          refine (H9.out _ (tab_later HT.out (HB5.out.setCell (p := ⟨G, 2, none⟩) hge _))).mono ?_
          rintro e w7 ⟨rfl, hb7⟩
          have B7 : Blk w7 G #[.string fo, .int .i64 po, .string cp, .string qu, .bool hq] 139 := (HBB5.out.set 2 _).later hb7
          have A7 : Blk w7 w.heap.size #[.string ⟨#[]⟩, .int .i64 0, .string ⟨#[]⟩, .string ⟨#[]⟩, .bool false] 139 := (HA5.out.other hne 2 _).later hb7
          have HB7 := hideB2 (below_then (HB5.out.setCell (p := ⟨G, 2, none⟩) hge _) hb7)
          clear p0 p1 p2 p3 p4 f0 f1 f2 f3 f4 hb7 HBB5 HA5 HB5
          obtain ⟨p0, p1, p2, p3, p4⟩ := B7.u5
          obtain ⟨a0, a1, a2, a3, a4⟩ := A7.u5
          obtain ⟨g0, g1, g2, g3, g4⟩ := A7.f5U
          have HA7 := hideB2 A7
          clear B7 A7 H9
          cases okv
          · have HF := hideB2 (show Ending.returned (.tuple #[.agg #[.string ⟨#[]⟩, .int .i64 0, .string ⟨#[]⟩, .string ⟨#[]⟩, .bool false], .bool false]) = .returned (.tuple #[valU U, .bool O]) by obtain ⟨h1, h2⟩ := HUO.out; rw [h1, h2]; rfl)
            go_wp2
            refine bodyPost_ret (results_cellT rfl _ _ _ rfl (HA7.out.set5U _ _ _ _ _) Tryz.underlying139 Tryz.infoUrl) rfl ⟨?_, ?_⟩
            · exact HF.out
            exact below_set5 HB7.out (Nat.le_refl _) _ _ _ _ _
          · have HF := hideB2 (show Ending.returned (.tuple #[.agg #[.string fo, .int .i64 po, .string cp, .string qu, .bool hq], .bool true]) = .returned (.tuple #[valU U, .bool O]) by obtain ⟨h1, h2⟩ := HUO.out; rw [h1, h2]; rfl)
            go_wp2
            refine bodyPost_ret (results_cellT rfl _ _ _ rfl (HA7.out.set5U _ _ _ _ _) Tryz.underlying139 Tryz.infoUrl) rfl ⟨?_, ?_⟩
            · exact HF.out
            exact below_set5 HB7.out (Nat.le_refl _) _ _ _ _ _
        · have hne0 := nonempty_of hp0
          rw [if_neg hp0] at H8
          clear hp0 hpz
          go_wp2_with fail
          refine (H8.out _).mono ?_
          rintro e w5 ⟨rfl, hb5⟩
          have B5 : Blk w5 G #[.string fo, .int .i64 po, .string pt, .string qu, .bool hq] 139 := (HBB4.out.set 0 _).later hb5
          have A5 : Blk w5 w.heap.size #[.string ⟨#[]⟩, .int .i64 0, .string ⟨#[]⟩, .string ⟨#[]⟩, .bool false] 139 := (HA4.out.other hne 0 _).later hb5
          have HB5 := hideB2 (below_then (HB4.out.setCell (p := ⟨G, 0, none⟩) hge _) hb5)
          clear p0 p1 p2 p3 p4 f0 f1 f2 f3 f4 hb5 HBB4 HA4 HB4 H8
          obtain ⟨p0, p1, p2, p3, p4⟩ := B5.u5
          obtain ⟨f0, f1, f2, f3, f4⟩ := B5.f5U
          have HBB5 := hideB2 B5
          have HA5 := hideB2 A5
          clear B5 A5
          go_wp2_with fail
          refine (H9.out _ (tab_later HT.out (HB5.out.setCell (p := ⟨G, 2, none⟩) hge _))).mono ?_
          rintro e w7 ⟨rfl, hb7⟩
          have B7 : Blk w7 G #[.string fo, .int .i64 po, .string cp, .string qu, .bool hq] 139 := (HBB5.out.set 2 _).later hb7
          have A7 : Blk w7 w.heap.size #[.string ⟨#[]⟩, .int .i64 0, .string ⟨#[]⟩, .string ⟨#[]⟩, .bool false] 139 := (HA5.out.other hne 2 _).later hb7
          have HB7 := hideB2 (below_then (HB5.out.setCell (p := ⟨G, 2, none⟩) hge _) hb7)
          clear p0 p1 p2 p3 p4 f0 f1 f2 f3 f4 hb7 HBB5 HA5 HB5
          obtain ⟨p0, p1, p2, p3, p4⟩ := B7.u5
          obtain ⟨a0, a1, a2, a3, a4⟩ := A7.u5
          obtain ⟨g0, g1, g2, g3, g4⟩ := A7.f5U
          have HA7 := hideB2 A7
          clear B7 A7 H9
          cases okv
          · have HF := hideB2 (show Ending.returned (.tuple #[.agg #[.string ⟨#[]⟩, .int .i64 0, .string ⟨#[]⟩, .string ⟨#[]⟩, .bool false], .bool false]) = .returned (.tuple #[valU U, .bool O]) by obtain ⟨h1, h2⟩ := HUO.out; rw [h1, h2]; rfl)
            go_wp2
            refine bodyPost_ret (results_cellT rfl _ _ _ rfl (HA7.out.set5U _ _ _ _ _) Tryz.underlying139 Tryz.infoUrl) rfl ⟨?_, ?_⟩
            · exact HF.out
            exact below_set5 HB7.out (Nat.le_refl _) _ _ _ _ _
          · have HF := hideB2 (show Ending.returned (.tuple #[.agg #[.string fo, .int .i64 po, .string cp, .string qu, .bool hq], .bool true]) = .returned (.tuple #[valU U, .bool O]) by obtain ⟨h1, h2⟩ := HUO.out; rw [h1, h2]; rfl)
            go_wp2
            refine bodyPost_ret (results_cellT rfl _ _ _ rfl (HA7.out.set5U _ _ _ _ _) Tryz.underlying139 Tryz.infoUrl) rfl ⟨?_, ?_⟩
            · exact HF.out
            exact below_set5 HB7.out (Nat.le_refl _) _ _ _ _ _
end Go.Proofs.YthdgeepedofleaaGreatDoor
