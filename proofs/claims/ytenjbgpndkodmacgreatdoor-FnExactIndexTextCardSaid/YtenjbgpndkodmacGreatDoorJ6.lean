/-
  Chapter 7: an address's text, and is it one; the specification's side. · Chapter 7: a host's pieces turned, and the form of the index; both sides. · Chapter 7: the form of the index; both sides. · The walks over chapter 1: ReadDec. · Chapter 7: an address read; lists, and the program's parts. · An address that comes in by value, opened; copies and sizes in the laws.
-/
import Derived.Test.YtenjbgpndkodmacGreatDoorJ5
import Derived.Test.YtenjbgpndkodmacGreatDoorJ3
import Derived.Test.YtenjbgpndkodmacGreatDoorJ0
import Derived.Deep.DeepCutAuto
import Derived.Deep.SlicePairs
namespace Go.Proofs.YtenjbgpndkodmacGreatDoor
set_option linter.unusedVariables false
set_option linter.unusedSimpArgs false
open Go.RowKit
set_option maxHeartbeats 1000000 in
theorem l7port_any (ho pa qu : ByteArray) (po : Int) (hq : Bool) (w : World) :
    Calls Tryz.prog 122 #[.agg #[.string ho, .int .i64 po, .string pa, .string qu, .bool hq]] w fun e w' => e = .returned (.string (portB po)) ∧ Below w.heap.size w w' := by
  have HB := hideB2 (below_a1 w (.cells #[.string ho, .int .i64 po, .string pa, .string qu, .bool hq] 84))
  cases h80 : (po == 80)
  · rw [portB_no h80]
    have HD := hideB2 (fun W => sDecText_all po W)
    have hdz := decT_size po
    generalize decT po = d at *
    go_enter Tryz.func122, Tryz.ntmps122
    go_wp2_with (go_at_call 56; refine (HD.out _).mono ?_; rintro e w1 ⟨rfl, hb1⟩)
    go_ret
    exact ⟨rfl, below_then HB.out hb1⟩
  · obtain rfl := beq_iff_eq.1 h80
    go_enter Tryz.func122, Tryz.ntmps122
    go_wp2
    go_ret
    exact ⟨rfl, HB.out⟩
set_option maxHeartbeats 1000000 in
theorem l7query_any (ho pa qu : ByteArray) (po : Int) (hq : Bool) (w : World) (hqu : qu.size ≤ 1048576) :
    Calls Tryz.prog 123 #[.agg #[.string ho, .int .i64 po, .string pa, .string qu, .bool hq]] w fun e w' => e = .returned (.string (qryB qu hq)) ∧ Below w.heap.size w w' := by
  have HB := hideB2 (below_a1 w (.cells #[.string ho, .int .i64 po, .string pa, .string qu, .bool hq] 84))
  cases hq
  · go_enter Tryz.func123, Tryz.ntmps123
    go_wp2
    go_ret
    exact ⟨rfl, HB.out⟩
  · go_enter Tryz.func123, Tryz.ntmps123
    go_wp2
    go_ret
    exact ⟨rfl, HB.out⟩
set_option maxRecDepth 100000 in
set_option maxHeartbeats 2000000 in
theorem l7text_any (ho pa qu : ByteArray) (po : Int) (hq : Bool) (w : World) (hho : ho.size ≤ 1048576) (hpa : pa.size ≤ 1048576) (hqu : qu.size ≤ 1048576) :
    Calls Tryz.prog 154 #[.agg #[.string ho, .int .i64 po, .string pa, .string qu, .bool hq]] w fun e w' => e = .returned (.string (utxt ho pa qu po hq)) ∧ Below w.heap.size w w' := by
  have HB := hideB2 (below_a1 w (.cells #[.string ho, .int .i64 po, .string pa, .string qu, .bool hq] 84))
  have A1 := Blk.new w #[.string ho, .int .i64 po, .string pa, .string qu, .bool hq] 84
  have hz1 := portB_size po
  have hz2 := qryB_size qu hq
  have HP := hideB2 (fun W => l7port_any ho pa qu po hq W)
  have HQ := hideB2 (fun W => l7query_any ho pa qu po hq W hqu)
  have HE := hideB2 (show utxt ho pa qu po hq = (((⟨#[104, 116, 116, 112, 58, 47, 47]⟩ ++ ho) ++ portB po) ++ pa) ++ qryB qu hq from rfl)
  generalize utxt ho pa qu po hq = R at *
  generalize portB po = P at *
  generalize qryB qu hq = Q at *
  have hs0 : (⟨#[104, 116, 116, 112, 58, 47, 47]⟩ : ByteArray).size = 7 := rfl
  have hs1 : ((⟨#[104, 116, 116, 112, 58, 47, 47]⟩ : ByteArray) ++ ho).size ≤ 1048583 := by rw [ByteArray.size_append]; omega
  have hs2 : (((⟨#[104, 116, 116, 112, 58, 47, 47]⟩ : ByteArray) ++ ho) ++ P).size ≤ 1048600 := by rw [ByteArray.size_append]; omega
  have hs3 : ((((⟨#[104, 116, 116, 112, 58, 47, 47]⟩ : ByteArray) ++ ho) ++ P) ++ pa).size ≤ 2097180 := by rw [ByteArray.size_append]; omega
  go_enter Tryz.func154, Tryz.ntmps154
  go_wp2
  generalize hW : w.alloc (.cells #[.string ho, .int .i64 po, .string pa, .string qu, .bool hq] 84) = W at *
  clear hW
  obtain ⟨p0, p1, p2, p3, p4⟩ := A1.u5
  have z0 := fun V => grw_some p0 V
  have z1 := fun V => grw_some p1 V
  have z2 := fun V => grw_some p2 V
  have z3 := fun V => grw_some p3 V
  have z4 := fun V => grw_some p4 V
  clear p0 p1 p2 p3 p4 A1
  refine wp_region_grow ?_ ?_ ?_
  · kernel_rfl
  · kernel_rfl
  · intro hne
    repeat (go_big_quiet_step ((first | (go_at_call 122; exact grow_call (HP.out _)) | (go_at_call 123; exact grow_call (HQ.out _)))))
    refine wpQuiet_nil ?_
    rintro _ ⟨V, rfl⟩
    have HBV := hideB2 (below_then HB.out (grw_below W V))
    generalize grw W V = w3 at *
    go_wp2
    go_ret
    exact ⟨ret_str HE.out, HBV.out⟩
/-- What of an address's text may be seen. -/
theorem digits_vis {n : Int} (h0 : 0 ≤ n) (h1 : n ≤ 65535) : allB vis8 (decT n) = true := by
  unfold decT
  rw [if_pos ⟨h0, by omega⟩]
  unfold allB decB
  rw [List.all_eq_true]
  intro b hb
  have hd := allDig_dec n.toNat
  unfold allDig at hd
  rw [List.all_eq_true] at hd
  have h2 := digP_iff.1 (hd b hb)
  unfold vis8 visP
  rw [decide_eq_true (show (33 : Int) ≤ (b.toNat : Int) by omega), decide_eq_true (show (b.toNat : Int) ≤ 126 by omega)]
  rfl
theorem clean_vis {s : ByteArray} (h0 : eqB s ⟨#[]⟩ = false) (h : eqB (clnB s) s = true) : allB vis8 s = true := by
  have h1 := eqB_iff.1 h
  cases hp : pthQ s
  · rw [clnB_no hp] at h1
    rw [← h1] at h0
    rw [eqB_self] at h0; cases h0
  · unfold pthQ at hp
    rw [Bool.and_eq_true, Bool.and_eq_true] at hp
    exact (targQ_iff.1 hp.1.1).2.2
theorem eqB_upt (q : ByteArray) : eqB (uptS 35 q) q = decide (idxS 35 q < 0) := by
  rcases idxS_cases 35 q with h | ⟨i, h, hi⟩
  · rw [uptS_none h, eqB_self, h]; rfl
  · rw [uptS_some h, h, decide_eq_false (by omega)]
    cases he : eqB (q.extract 0 i) q with
    | false => rfl
    | true =>
      have := congrArg ByteArray.size (eqB_iff.1 he)
      rw [ByteArray.size_extract] at this
      omega
theorem urlQ_split (ho pa qu : ByteArray) (po : Int) (hq : Bool) (h1 : hostQ ho = true) (h2 : ¬ po < 1) (h3 : ¬ (65535 : Int) < po) (h4 : eqB pa ⟨#[]⟩ = false) (h5 : eqB (clnB pa) pa = true) (h6 : (hq || eqB qu ⟨#[]⟩) = true) :
    urlQ ho pa qu po hq = (decide (qu.size ≤ 200) && ((eqB qu ⟨#[]⟩ || allB vis8 qu) && (decide (idxS 35 qu < 0) && decide ((utxt ho pa qu po hq).size ≤ 200)))) := by
  have v1 : allB vis8 ho = true := by
    unfold hostQ at h1
    rw [Bool.and_eq_true, Bool.and_eq_true] at h1
    exact host_vis h1.1.2
  have v2 : allB vis8 (portB po) = true := by
    unfold portB
    split
    · rfl
    · rw [all_app, digits_vis (by omega) (by omega)]; rfl
  have v3 := clean_vis h4 h5
  have v4 : allB vis8 (utxt ho pa qu po hq) = allB vis8 (qryB qu hq) := by
    unfold utxt
    rw [all_app, all_app, all_app, all_app, v1, v2, v3]
    rfl
  have v5 : allB vis8 (qryB qu hq) = (eqB qu ⟨#[]⟩ || allB vis8 qu) := by
    unfold qryB
    cases hq
    · rw [Bool.false_or] at h6
      rw [h6]; rfl
    · rw [if_pos rfl, all_app]
      cases he : eqB qu ⟨#[]⟩
      · rfl
      · rw [eqB_iff.1 he]; rfl
  have hz := utxt_size ho pa qu po hq
  have hw : withinB po 1 65535 = true := within_iff.2 ⟨by omega, by omega⟩
  unfold urlQ queQ
  rw [h1, hw, h4, h5, h6]
  unfold targQ
  rw [v4, v5, decide_eq_true (show 1 ≤ ((utxt ho pa qu po hq).size : Int) by omega)]
  simp only [Bool.true_and, Bool.not_false]
  generalize (eqB qu ⟨#[]⟩ || allB vis8 qu) = x
  by_cases h200 : (utxt ho pa qu po hq).size ≤ 200
  · have hq2 : qu.size ≤ 200 := by
      cases hq
      · rw [Bool.false_or] at h6
        rw [eqB_iff.1 h6]; show (0 : Nat) ≤ 200; omega
      · have : (qryB qu true).size = 1 + qu.size := by unfold qryB; rw [if_pos rfl, ByteArray.size_append]; rfl
        omega
    rw [decide_eq_true h200, decide_eq_true hq2, decide_eq_true (show ((utxt ho pa qu po hq).size : Int) ≤ 200 by omega)]
    cases x <;> simp
  · rw [decide_eq_false h200, decide_eq_false (show ¬ ((utxt ho pa qu po hq).size : Int) ≤ 200 by omega)]
    simp
set_option maxRecDepth 100000 in
set_option maxHeartbeats 8000000 in
theorem sUrlOk_any (ho pa qu : ByteArray) (po : Int) (hq : Bool) (w : World) (hho : ho.size ≤ 1048576) (hpa : pa.size ≤ 1048576) (hqu : qu.size ≤ 1048576) :
    Calls Tryz.prog 121 #[.agg #[.string ho, .int .i64 po, .string pa, .string qu, .bool hq]] w fun e w' => e = .returned (.bool (urlQ ho pa qu po hq)) ∧ Below w.heap.size w w' := by
  have HB := hideB2 (below_a1 w (.cells #[.string ho, .int .i64 po, .string pa, .string qu, .bool hq] 84))
  have A1 := hideB2 (Blk.new w #[.string ho, .int .i64 po, .string pa, .string qu, .bool hq] 84)
  have HH := hideB2 (fun W => l7host_any ho W (by unfold maxLen; omega))
  have HCP := hideB2 (fun W => sCleanPath_any pa W (by unfold maxLen; omega))
  have HV := hideB2 (fun W => l6visible_any qu W (by unfold maxLen; omega))
  have HU := hideB2 (fun W => l6uptoS_any qu 35 W (by unfold maxLen; omega))
  change Hid (∀ W, Calls _ _ #[_, .int .u8 35] W _) at HU
  have HX := hideB2 (fun W => l7text_any ho pa qu po hq W hho hpa hqu)
  cases h1 : hostQ ho
  · have HE := hideB2 (show urlQ ho pa qu po hq = false by unfold urlQ; rw [h1]; simp)
    rw [h1] at HH
    clear h1
    go_enter Tryz.func121, Tryz.ntmps121
    go_wp2
    generalize hW0 : w.alloc (.cells #[.string ho, .int .i64 po, .string pa, .string qu, .bool hq] 84) = W at *
    clear hW0
    obtain ⟨p0, p1, p2, p3, p4⟩ := A1.out.u5
    have z0 := fun V => grw_some p0 V
    have z1 := fun V => grw_some p1 V
    have z2 := fun V => grw_some p2 V
    have z3 := fun V => grw_some p3 V
    have z4 := fun V => grw_some p4 V
    clear p0 p1 p2 p3 p4
    refine wp_region_grow ?_ ?_ ?_
    · kernel_rfl
    · kernel_rfl
    · intro hne0
      repeat (go_big_quiet_step ((first | (go_at_call 151; exact grow_call (HH.out _)) | (go_at_call 152; exact grow_call (HCP.out _)))))
      refine wpQuiet_nil ?_
      rintro _ ⟨V, rfl⟩
      have HBV := hideB2 (below_then HB.out (grw_below W V))
      generalize grw W V = w3 at *
      go_wp2
      go_ret
      exact ⟨ret_bool HE.out, HBV.out⟩
  · by_cases h2 : po < 1
    · have d2 := decide_eq_true h2
      have HE := hideB2 (show urlQ ho pa qu po hq = false by unfold urlQ withinB; rw [decide_eq_false (show ¬ 1 ≤ po by omega)]; simp)
      rw [h1] at HH
      clear h1
      go_enter Tryz.func121, Tryz.ntmps121
      go_wp2
      generalize hW0 : w.alloc (.cells #[.string ho, .int .i64 po, .string pa, .string qu, .bool hq] 84) = W at *
      clear hW0
      obtain ⟨p0, p1, p2, p3, p4⟩ := A1.out.u5
      have z0 := fun V => grw_some p0 V
      have z1 := fun V => grw_some p1 V
      have z2 := fun V => grw_some p2 V
      have z3 := fun V => grw_some p3 V
      have z4 := fun V => grw_some p4 V
      clear p0 p1 p2 p3 p4
      refine wp_region_grow ?_ ?_ ?_
      · kernel_rfl
      · kernel_rfl
      · intro hne0
        repeat (go_big_quiet_step ((first | (go_at_call 151; exact grow_call (HH.out _)) | (go_at_call 152; exact grow_call (HCP.out _)))))
        refine wpQuiet_nil ?_
        rintro _ ⟨V, rfl⟩
        have HBV := hideB2 (below_then HB.out (grw_below W V))
        generalize grw W V = w3 at *
        go_wp2
        go_ret
        exact ⟨ret_bool HE.out, HBV.out⟩
    · have d2 := decide_eq_false h2
      by_cases h3 : (65535 : Int) < po
      · have d3 := decide_eq_true h3
        have HE := hideB2 (show urlQ ho pa qu po hq = false by unfold urlQ withinB; rw [decide_eq_false (show ¬ po ≤ 65535 by omega)]; simp)
        rw [h1] at HH
        clear h1
        go_enter Tryz.func121, Tryz.ntmps121
        go_wp2
        generalize hW0 : w.alloc (.cells #[.string ho, .int .i64 po, .string pa, .string qu, .bool hq] 84) = W at *
        clear hW0
        obtain ⟨p0, p1, p2, p3, p4⟩ := A1.out.u5
        have z0 := fun V => grw_some p0 V
        have z1 := fun V => grw_some p1 V
        have z2 := fun V => grw_some p2 V
        have z3 := fun V => grw_some p3 V
        have z4 := fun V => grw_some p4 V
        clear p0 p1 p2 p3 p4
        refine wp_region_grow ?_ ?_ ?_
        · kernel_rfl
        · kernel_rfl
        · intro hne0
          repeat (go_big_quiet_step ((first | (go_at_call 151; exact grow_call (HH.out _)) | (go_at_call 152; exact grow_call (HCP.out _)))))
          refine wpQuiet_nil ?_
          rintro _ ⟨V, rfl⟩
          have HBV := hideB2 (below_then HB.out (grw_below W V))
          generalize grw W V = w3 at *
          go_wp2
          go_ret
          exact ⟨ret_bool HE.out, HBV.out⟩
      · have d3 := decide_eq_false h3
        cases h4 : eqB pa ⟨#[]⟩
        · cases h5 : eqB (clnB pa) pa
          · have HE := hideB2 (show urlQ ho pa qu po hq = false by unfold urlQ; rw [h5]; simp)
            rw [h1] at HH
            rw [eqB_nilU] at h4
            have h5' : ((clnB pa).toList == pa.toList) = false := h5
            clear h1 h5
            generalize clnB pa = cp at *
            go_enter Tryz.func121, Tryz.ntmps121
            go_wp2
            generalize hW0 : w.alloc (.cells #[.string ho, .int .i64 po, .string pa, .string qu, .bool hq] 84) = W at *
            clear hW0
            obtain ⟨p0, p1, p2, p3, p4⟩ := A1.out.u5
            have z0 := fun V => grw_some p0 V
            have z1 := fun V => grw_some p1 V
            have z2 := fun V => grw_some p2 V
            have z3 := fun V => grw_some p3 V
            have z4 := fun V => grw_some p4 V
            clear p0 p1 p2 p3 p4
            refine wp_region_grow ?_ ?_ ?_
            · kernel_rfl
            · kernel_rfl
            · intro hne0
              repeat (go_big_quiet_step ((first | (go_at_call 151; exact grow_call (HH.out _)) | (go_at_call 152; exact grow_call (HCP.out _)))))
              refine wpQuiet_nil ?_
              rintro _ ⟨V, rfl⟩
              have HBV := hideB2 (below_then HB.out (grw_below W V))
              generalize grw W V = w3 at *
              go_wp2
              go_ret
              exact ⟨ret_bool HE.out, HBV.out⟩
          · have h5' : ((clnB pa).toList == pa.toList) = true := h5
            cases h6 : (hq || eqB qu ⟨#[]⟩)
            · have HE := hideB2 (show urlQ ho pa qu po hq = false by unfold urlQ queQ; rw [h6]; simp)
              rw [h1] at HH
              rw [eqB_nilU] at h4
              rw [Bool.or_eq_false_iff, eqB_nilU] at h6
              obtain ⟨rfl, h7⟩ := h6
              clear h1 h5
              generalize clnB pa = cp at *
              go_enter Tryz.func121, Tryz.ntmps121
              go_wp2
              generalize hW0 : w.alloc (.cells #[.string ho, .int .i64 po, .string pa, .string qu, .bool false] 84) = W at *
              clear hW0
              obtain ⟨p0, p1, p2, p3, p4⟩ := A1.out.u5
              have z0 := fun V => grw_some p0 V
              have z1 := fun V => grw_some p1 V
              have z2 := fun V => grw_some p2 V
              have z3 := fun V => grw_some p3 V
              have z4 := fun V => grw_some p4 V
              clear p0 p1 p2 p3 p4
              refine wp_region_grow ?_ ?_ ?_
              · kernel_rfl
              · kernel_rfl
              · intro hne0
                repeat (go_big_quiet_step ((first | (go_at_call 151; exact grow_call (HH.out _)) | (go_at_call 152; exact grow_call (HCP.out _)))))
                refine wpQuiet_nil ?_
                rintro _ ⟨V, rfl⟩
                have HBV := hideB2 (below_then HB.out (grw_below W V))
                generalize grw W V = w3 at *
                go_wp2
                go_ret
                exact ⟨ret_bool HE.out, HBV.out⟩
            · have HS := urlQ_split ho pa qu po hq h1 h2 h3 h4 h5 h6
              have HUQ := eqB_upt qu
              rw [h1] at HH
              rw [eqB_nilU] at h4
              clear h1 h5
              generalize clnB pa = cp at *
              by_cases h7 : (200 : Int) < (qu.size : Int)
              · have d7 := decide_eq_true h7
                have HE := hideB2 (show urlQ ho pa qu po hq = false by rw [HS, decide_eq_false (show ¬ qu.size ≤ 200 by omega)]; simp)
                clear HS HUQ
                cases hq
                · rw [Bool.false_or, eqB_nilU] at h6
                  go_enter Tryz.func121, Tryz.ntmps121
                  go_wp2
                  generalize hW0 : w.alloc (.cells #[.string ho, .int .i64 po, .string pa, .string qu, .bool false] 84) = W at *
                  clear hW0
                  obtain ⟨p0, p1, p2, p3, p4⟩ := A1.out.u5
                  have z0 := fun V => grw_some p0 V
                  have z1 := fun V => grw_some p1 V
                  have z2 := fun V => grw_some p2 V
                  have z3 := fun V => grw_some p3 V
                  have z4 := fun V => grw_some p4 V
                  clear p0 p1 p2 p3 p4
                  refine wp_region_grow ?_ ?_ ?_
                  · kernel_rfl
                  · kernel_rfl
                  · intro hne0
                    repeat (go_big_quiet_step ((first | (go_at_call 151; exact grow_call (HH.out _)) | (go_at_call 152; exact grow_call (HCP.out _)))))
                    refine wpQuiet_nil ?_
                    rintro _ ⟨V, rfl⟩
                    have HBV := hideB2 (below_then HB.out (grw_below W V))
                    have A2 := A1.out.later (grw_below W V)
                    clear z0 z1 z2 z3 z4 A1
                    generalize grw W V = w3 at *
                    obtain ⟨p0, p1, p2, p3, p4⟩ := A2.u5
                    have z0 := fun V => grw_some p0 V
                    have z1 := fun V => grw_some p1 V
                    have z2 := fun V => grw_some p2 V
                    have z3 := fun V => grw_some p3 V
                    have z4 := fun V => grw_some p4 V
                    have HA2 := hideB2 A2
                    clear p0 p1 p2 p3 p4 A2
                    go_wp2
                    refine wp_region_grow ?_ ?_ ?_
                    · kernel_rfl
                    · kernel_rfl
                    · intro hne1
                      repeat (go_big_quiet_step ((first | (go_at_call 153; exact grow_same (HV.out _)) | (go_at_call 93; exact grow_same (HU.out _)))))
                      refine wpQuiet_nil ?_
                      rintro _ ⟨V2, rfl⟩
                      have HB4 := hideB2 (below_then HBV.out (grw_below w3 V2))
                      have A3 := HA2.out.later (grw_below w3 V2)
                      clear z0 z1 z2 z3 z4 HA2
                      generalize grw w3 V2 = w4 at *
                      obtain ⟨p0, p1, p2, p3, p4⟩ := A3.u5
                      clear A3
                      go_wp2
                      go_ret
                      exact ⟨ret_bool HE.out, HB4.out⟩
                · clear h6
                  go_enter Tryz.func121, Tryz.ntmps121
                  go_wp2
                  generalize hW0 : w.alloc (.cells #[.string ho, .int .i64 po, .string pa, .string qu, .bool true] 84) = W at *
                  clear hW0
                  obtain ⟨p0, p1, p2, p3, p4⟩ := A1.out.u5
                  have z0 := fun V => grw_some p0 V
                  have z1 := fun V => grw_some p1 V
                  have z2 := fun V => grw_some p2 V
                  have z3 := fun V => grw_some p3 V
                  have z4 := fun V => grw_some p4 V
                  clear p0 p1 p2 p3 p4
                  refine wp_region_grow ?_ ?_ ?_
                  · kernel_rfl
                  · kernel_rfl
                  · intro hne0
                    repeat (go_big_quiet_step ((first | (go_at_call 151; exact grow_call (HH.out _)) | (go_at_call 152; exact grow_call (HCP.out _)))))
                    refine wpQuiet_nil ?_
                    rintro _ ⟨V, rfl⟩
                    have HBV := hideB2 (below_then HB.out (grw_below W V))
                    have A2 := A1.out.later (grw_below W V)
                    clear z0 z1 z2 z3 z4 A1
                    generalize grw W V = w3 at *
                    obtain ⟨p0, p1, p2, p3, p4⟩ := A2.u5
                    have z0 := fun V => grw_some p0 V
                    have z1 := fun V => grw_some p1 V
                    have z2 := fun V => grw_some p2 V
                    have z3 := fun V => grw_some p3 V
                    have z4 := fun V => grw_some p4 V
                    have HA2 := hideB2 A2
                    clear p0 p1 p2 p3 p4 A2
                    go_wp2
                    refine wp_region_grow ?_ ?_ ?_
                    · kernel_rfl
                    · kernel_rfl
                    · intro hne1
                      repeat (go_big_quiet_step ((first | (go_at_call 153; exact grow_same (HV.out _)) | (go_at_call 93; exact grow_same (HU.out _)))))
                      refine wpQuiet_nil ?_
                      rintro _ ⟨V2, rfl⟩
                      have HB4 := hideB2 (below_then HBV.out (grw_below w3 V2))
                      have A3 := HA2.out.later (grw_below w3 V2)
                      clear z0 z1 z2 z3 z4 HA2
                      generalize grw w3 V2 = w4 at *
                      obtain ⟨p0, p1, p2, p3, p4⟩ := A3.u5
                      clear A3
                      go_wp2
                      go_ret
                      exact ⟨ret_bool HE.out, HB4.out⟩
              · have d7 := decide_eq_false h7
                rw [decide_eq_true (show qu.size ≤ 200 by omega), Bool.true_and] at HS
                cases h8 : eqB qu ⟨#[]⟩
                · have h8' := h8
                  rw [eqB_nilU] at h8'
                  have hpos : (0 : Int) < (qu.size : Int) := by
                    rcases Nat.eq_zero_or_pos qu.size with h0 | h0
                    · rw [empty_of h0] at h8'; cases h8'
                    · omega
                  rw [decide_eq_true hpos, Bool.true_and] at HV
                  rw [h8, Bool.false_or] at HS
                  rw [h8, Bool.or_false] at h6
                  subst h6
                  clear h8
                  cases h9 : allB vis8 qu
                  · rw [h9] at HV HS
                    have HE := hideB2 (show urlQ ho pa qu po true = false by rw [HS]; simp)
                    clear h9 HS HUQ
                    go_enter Tryz.func121, Tryz.ntmps121
                    go_wp2
                    generalize hW0 : w.alloc (.cells #[.string ho, .int .i64 po, .string pa, .string qu, .bool true] 84) = W at *
                    clear hW0
                    obtain ⟨p0, p1, p2, p3, p4⟩ := A1.out.u5
                    have z0 := fun V => grw_some p0 V
                    have z1 := fun V => grw_some p1 V
                    have z2 := fun V => grw_some p2 V
                    have z3 := fun V => grw_some p3 V
                    have z4 := fun V => grw_some p4 V
                    clear p0 p1 p2 p3 p4
                    refine wp_region_grow ?_ ?_ ?_
                    · kernel_rfl
                    · kernel_rfl
                    · intro hne0
                      repeat (go_big_quiet_step ((first | (go_at_call 151; exact grow_call (HH.out _)) | (go_at_call 152; exact grow_call (HCP.out _)))))
                      refine wpQuiet_nil ?_
                      rintro _ ⟨V, rfl⟩
                      have HBV := hideB2 (below_then HB.out (grw_below W V))
                      have A2 := A1.out.later (grw_below W V)
                      clear z0 z1 z2 z3 z4 A1
                      generalize grw W V = w3 at *
                      obtain ⟨p0, p1, p2, p3, p4⟩ := A2.u5
                      have z0 := fun V => grw_some p0 V
                      have z1 := fun V => grw_some p1 V
                      have z2 := fun V => grw_some p2 V
                      have z3 := fun V => grw_some p3 V
                      have z4 := fun V => grw_some p4 V
                      have HA2 := hideB2 A2
                      clear p0 p1 p2 p3 p4 A2
                      go_wp2
                      refine wp_region_grow ?_ ?_ ?_
                      · kernel_rfl
                      · kernel_rfl
                      · intro hne1
                        repeat (go_big_quiet_step ((first | (go_at_call 153; exact grow_same (HV.out _)) | (go_at_call 93; exact grow_same (HU.out _)))))
                        refine wpQuiet_nil ?_
                        rintro _ ⟨V2, rfl⟩
                        have HB4 := hideB2 (below_then HBV.out (grw_below w3 V2))
                        have A3 := HA2.out.later (grw_below w3 V2)
                        clear z0 z1 z2 z3 z4 HA2
                        generalize grw w3 V2 = w4 at *
                        obtain ⟨p0, p1, p2, p3, p4⟩ := A3.u5
                        clear A3
                        go_wp2
                        go_ret
                        exact ⟨ret_bool HE.out, HB4.out⟩
                  · rw [h9] at HV HS
                    rw [Bool.true_and] at HS
                    clear h9
                    cases h10 : decide (idxS 35 qu < 0)
                    · rw [h10] at HS HUQ
                      have HE := hideB2 (show urlQ ho pa qu po true = false by rw [HS]; simp)
                      have h11 : ((uptS 35 qu).toList == qu.toList) = false := HUQ
                      clear h10 HS HUQ
                      generalize uptS 35 qu = uq at *
                      go_enter Tryz.func121, Tryz.ntmps121
                      go_wp2
                      generalize hW0 : w.alloc (.cells #[.string ho, .int .i64 po, .string pa, .string qu, .bool true] 84) = W at *
                      clear hW0
                      obtain ⟨p0, p1, p2, p3, p4⟩ := A1.out.u5
                      have z0 := fun V => grw_some p0 V
                      have z1 := fun V => grw_some p1 V
                      have z2 := fun V => grw_some p2 V
                      have z3 := fun V => grw_some p3 V
                      have z4 := fun V => grw_some p4 V
                      clear p0 p1 p2 p3 p4
                      refine wp_region_grow ?_ ?_ ?_
                      · kernel_rfl
                      · kernel_rfl
                      · intro hne0
                        repeat (go_big_quiet_step ((first | (go_at_call 151; exact grow_call (HH.out _)) | (go_at_call 152; exact grow_call (HCP.out _)))))
                        refine wpQuiet_nil ?_
                        rintro _ ⟨V, rfl⟩
                        have HBV := hideB2 (below_then HB.out (grw_below W V))
                        have A2 := A1.out.later (grw_below W V)
                        clear z0 z1 z2 z3 z4 A1
                        generalize grw W V = w3 at *
                        obtain ⟨p0, p1, p2, p3, p4⟩ := A2.u5
                        have z0 := fun V => grw_some p0 V
                        have z1 := fun V => grw_some p1 V
                        have z2 := fun V => grw_some p2 V
                        have z3 := fun V => grw_some p3 V
                        have z4 := fun V => grw_some p4 V
                        have HA2 := hideB2 A2
                        clear p0 p1 p2 p3 p4 A2
                        go_wp2
                        refine wp_region_grow ?_ ?_ ?_
                        · kernel_rfl
                        · kernel_rfl
                        · intro hne1
                          repeat (go_big_quiet_step ((first | (go_at_call 153; exact grow_same (HV.out _)) | (go_at_call 93; exact grow_same (HU.out _)))))
                          refine wpQuiet_nil ?_
                          rintro _ ⟨V2, rfl⟩
                          have HB4 := hideB2 (below_then HBV.out (grw_below w3 V2))
                          have A3 := HA2.out.later (grw_below w3 V2)
                          clear z0 z1 z2 z3 z4 HA2
                          generalize grw w3 V2 = w4 at *
                          obtain ⟨p0, p1, p2, p3, p4⟩ := A3.u5
                          clear A3
                          go_wp2
                          go_ret
                          exact ⟨ret_bool HE.out, HB4.out⟩
                    · rw [h10] at HS HUQ
                      rw [Bool.true_and] at HS
                      have HE := hideB2 (show urlQ ho pa qu po true = decide (((utxt ho pa qu po true).size : Int) ≤ 200) by rw [HS]; apply decide_eq_decide.2; omega)
                      have h11 : ((uptS 35 qu).toList == qu.toList) = true := HUQ
                      clear h10 HS HUQ
                      generalize uptS 35 qu = uq at *
                      generalize utxt ho pa qu po true = T at *
                      go_enter Tryz.func121, Tryz.ntmps121
                      go_wp2
                      generalize hW0 : w.alloc (.cells #[.string ho, .int .i64 po, .string pa, .string qu, .bool true] 84) = W at *
                      clear hW0
                      obtain ⟨p0, p1, p2, p3, p4⟩ := A1.out.u5
                      have z0 := fun V => grw_some p0 V
                      have z1 := fun V => grw_some p1 V
                      have z2 := fun V => grw_some p2 V
                      have z3 := fun V => grw_some p3 V
                      have z4 := fun V => grw_some p4 V
                      clear p0 p1 p2 p3 p4
                      refine wp_region_grow ?_ ?_ ?_
                      · kernel_rfl
                      · kernel_rfl
                      · intro hne0
                        repeat (go_big_quiet_step ((first | (go_at_call 151; exact grow_call (HH.out _)) | (go_at_call 152; exact grow_call (HCP.out _)))))
                        refine wpQuiet_nil ?_
                        rintro _ ⟨V, rfl⟩
                        have HBV := hideB2 (below_then HB.out (grw_below W V))
                        have A2 := A1.out.later (grw_below W V)
                        clear z0 z1 z2 z3 z4 A1
                        generalize grw W V = w3 at *
                        obtain ⟨p0, p1, p2, p3, p4⟩ := A2.u5
                        have z0 := fun V => grw_some p0 V
                        have z1 := fun V => grw_some p1 V
                        have z2 := fun V => grw_some p2 V
                        have z3 := fun V => grw_some p3 V
                        have z4 := fun V => grw_some p4 V
                        have HA2 := hideB2 A2
                        clear p0 p1 p2 p3 p4 A2
                        go_wp2
                        refine wp_region_grow ?_ ?_ ?_
                        · kernel_rfl
                        · kernel_rfl
                        · intro hne1
                          repeat (go_big_quiet_step ((first | (go_at_call 153; exact grow_same (HV.out _)) | (go_at_call 93; exact grow_same (HU.out _)))))
                          refine wpQuiet_nil ?_
                          rintro _ ⟨V2, rfl⟩
                          have HB4 := hideB2 (below_then HBV.out (grw_below w3 V2))
                          have A3 := HA2.out.later (grw_below w3 V2)
                          clear z0 z1 z2 z3 z4 HA2
                          generalize grw w3 V2 = w4 at *
                          obtain ⟨p0, p1, p2, p3, p4⟩ := A3.u5
                          clear A3
                          go_wp2_with (go_at_call 154; refine (HX.out _).mono ?_; rintro e w5 ⟨rfl, hb5⟩)
                          go_ret
                          exact ⟨ret_bool HE.out, below_then HB4.out hb5⟩
                · have h8' := h8
                  rw [eqB_nilU] at h8'
                  rw [h8, Bool.true_or, Bool.true_and] at HS
                  have hqe := eqB_iff.1 h8
                  have h10 : decide (idxS 35 qu < 0) = true := by rw [hqe]; rfl
                  rw [h10] at HS HUQ
                  rw [Bool.true_and] at HS
                  have HE := hideB2 (show urlQ ho pa qu po hq = decide (((utxt ho pa qu po hq).size : Int) ≤ 200) by rw [HS]; apply decide_eq_decide.2; omega)
                  have h11 : ((uptS 35 qu).toList == qu.toList) = true := HUQ
                  clear h10 HS HUQ hqe h8
                  generalize uptS 35 qu = uq at *
                  generalize utxt ho pa qu po hq = T at *
                  clear h6
                  cases hq
                  · have h12 : qu.toList.isEmpty = true := h8'
                    go_enter Tryz.func121, Tryz.ntmps121
                    go_wp2
                    generalize hW0 : w.alloc (.cells #[.string ho, .int .i64 po, .string pa, .string qu, .bool false] 84) = W at *
                    clear hW0
                    obtain ⟨p0, p1, p2, p3, p4⟩ := A1.out.u5
                    have z0 := fun V => grw_some p0 V
                    have z1 := fun V => grw_some p1 V
                    have z2 := fun V => grw_some p2 V
                    have z3 := fun V => grw_some p3 V
                    have z4 := fun V => grw_some p4 V
                    clear p0 p1 p2 p3 p4
                    refine wp_region_grow ?_ ?_ ?_
                    · kernel_rfl
                    · kernel_rfl
                    · intro hne0
                      repeat (go_big_quiet_step ((first | (go_at_call 151; exact grow_call (HH.out _)) | (go_at_call 152; exact grow_call (HCP.out _)))))
                      refine wpQuiet_nil ?_
                      rintro _ ⟨V, rfl⟩
                      have HBV := hideB2 (below_then HB.out (grw_below W V))
                      have A2 := A1.out.later (grw_below W V)
                      clear z0 z1 z2 z3 z4 A1
                      generalize grw W V = w3 at *
                      obtain ⟨p0, p1, p2, p3, p4⟩ := A2.u5
                      have z0 := fun V => grw_some p0 V
                      have z1 := fun V => grw_some p1 V
                      have z2 := fun V => grw_some p2 V
                      have z3 := fun V => grw_some p3 V
                      have z4 := fun V => grw_some p4 V
                      have HA2 := hideB2 A2
                      clear p0 p1 p2 p3 p4 A2
                      go_wp2
                      refine wp_region_grow ?_ ?_ ?_
                      · kernel_rfl
                      · kernel_rfl
                      · intro hne1
                        repeat (go_big_quiet_step ((first | (go_at_call 153; exact grow_same (HV.out _)) | (go_at_call 93; exact grow_same (HU.out _)))))
                        refine wpQuiet_nil ?_
                        rintro _ ⟨V2, rfl⟩
                        have HB4 := hideB2 (below_then HBV.out (grw_below w3 V2))
                        have A3 := HA2.out.later (grw_below w3 V2)
                        clear z0 z1 z2 z3 z4 HA2
                        generalize grw w3 V2 = w4 at *
                        obtain ⟨p0, p1, p2, p3, p4⟩ := A3.u5
                        clear A3
                        go_wp2_with (go_at_call 154; refine (HX.out _).mono ?_; rintro e w5 ⟨rfl, hb5⟩)
                        go_ret
                        exact ⟨ret_bool HE.out, below_then HB4.out hb5⟩
                  · have h12 : qu.toList.isEmpty = true := h8'
                    go_enter Tryz.func121, Tryz.ntmps121
                    go_wp2
                    generalize hW0 : w.alloc (.cells #[.string ho, .int .i64 po, .string pa, .string qu, .bool true] 84) = W at *
                    clear hW0
                    obtain ⟨p0, p1, p2, p3, p4⟩ := A1.out.u5
                    have z0 := fun V => grw_some p0 V
                    have z1 := fun V => grw_some p1 V
                    have z2 := fun V => grw_some p2 V
                    have z3 := fun V => grw_some p3 V
                    have z4 := fun V => grw_some p4 V
                    clear p0 p1 p2 p3 p4
                    refine wp_region_grow ?_ ?_ ?_
                    · kernel_rfl
                    · kernel_rfl
                    · intro hne0
                      repeat (go_big_quiet_step ((first | (go_at_call 151; exact grow_call (HH.out _)) | (go_at_call 152; exact grow_call (HCP.out _)))))
                      refine wpQuiet_nil ?_
                      rintro _ ⟨V, rfl⟩
                      have HBV := hideB2 (below_then HB.out (grw_below W V))
                      have A2 := A1.out.later (grw_below W V)
                      clear z0 z1 z2 z3 z4 A1
                      generalize grw W V = w3 at *
                      obtain ⟨p0, p1, p2, p3, p4⟩ := A2.u5
                      have z0 := fun V => grw_some p0 V
                      have z1 := fun V => grw_some p1 V
                      have z2 := fun V => grw_some p2 V
                      have z3 := fun V => grw_some p3 V
                      have z4 := fun V => grw_some p4 V
                      have HA2 := hideB2 A2
                      clear p0 p1 p2 p3 p4 A2
                      go_wp2
                      refine wp_region_grow ?_ ?_ ?_
                      · kernel_rfl
                      · kernel_rfl
                      · intro hne1
                        repeat (go_big_quiet_step ((first | (go_at_call 153; exact grow_same (HV.out _)) | (go_at_call 93; exact grow_same (HU.out _)))))
                        refine wpQuiet_nil ?_
                        rintro _ ⟨V2, rfl⟩
                        have HB4 := hideB2 (below_then HBV.out (grw_below w3 V2))
                        have A3 := HA2.out.later (grw_below w3 V2)
                        clear z0 z1 z2 z3 z4 HA2
                        generalize grw w3 V2 = w4 at *
                        obtain ⟨p0, p1, p2, p3, p4⟩ := A3.u5
                        clear A3
                        go_wp2_with (go_at_call 154; refine (HX.out _).mono ?_; rintro e w5 ⟨rfl, hb5⟩)
                        go_ret
                        exact ⟨ret_bool HE.out, below_then HB4.out hb5⟩
        · have HE := hideB2 (show urlQ ho pa qu po hq = false by unfold urlQ; rw [h4]; simp)
          rw [h1] at HH
          rw [eqB_nilU] at h4
          clear h1
          go_enter Tryz.func121, Tryz.ntmps121
          go_wp2
          generalize hW0 : w.alloc (.cells #[.string ho, .int .i64 po, .string pa, .string qu, .bool hq] 84) = W at *
          clear hW0
          obtain ⟨p0, p1, p2, p3, p4⟩ := A1.out.u5
          have z0 := fun V => grw_some p0 V
          have z1 := fun V => grw_some p1 V
          have z2 := fun V => grw_some p2 V
          have z3 := fun V => grw_some p3 V
          have z4 := fun V => grw_some p4 V
          clear p0 p1 p2 p3 p4
          refine wp_region_grow ?_ ?_ ?_
          · kernel_rfl
          · kernel_rfl
          · intro hne0
            repeat (go_big_quiet_step ((first | (go_at_call 151; exact grow_call (HH.out _)) | (go_at_call 152; exact grow_call (HCP.out _)))))
            refine wpQuiet_nil ?_
            rintro _ ⟨V, rfl⟩
            have HBV := hideB2 (below_then HB.out (grw_below W V))
            generalize grw W V = w3 at *
            go_wp2
            go_ret
            exact ⟨ret_bool HE.out, HBV.out⟩
end Go.Proofs.YtenjbgpndkodmacGreatDoor
namespace Go.Proofs.YtenjbgpndkodmacGreatDoor
set_option linter.unusedVariables false
set_option linter.unusedSimpArgs false
open Go.RowKit
/-- The pieces from the last to the first, with a byte between. -/
def turnB (h : ByteArray) (c d : UInt8) : ByteArray := joinS d (splS c h).reverse
theorem sumS_app (a b : List ByteArray) : sumS (a ++ b) = sumS a + sumS b := by
  unfold sumS; rw [List.map_append, List.sum_append]
theorem sumS_rev (l : List ByteArray) : sumS l.reverse = sumS l := by
  unfold sumS; rw [List.map_reverse, List.sum_reverse]
theorem turnB_size (h : ByteArray) (c d : UInt8) : (turnB h c d).size ≤ 2 * h.size + 1 := by
  have h1 := joinS_size d (splS c h).reverse
  have h2 := splS_le c h
  rw [List.length_reverse, sumS_rev] at h1
  unfold turnB
  omega
theorem setCells_row (g : Nat) (t : TypeId) : ∀ (vs : List Value) (o : Nat) (w : World) (cur : Array Value), w.heap[g]? = some (.cells cur t (0, 0)) → o + vs.length ≤ cur.size → (w.setCells g o vs).heap[g]? = some (.cells (cur.toList.take o ++ vs ++ cur.toList.drop (o + vs.length)).toArray t (0, 0))
  | [], o, w, cur, h, hl => by
    show w.heap[g]? = _
    rw [h]
    simp
  | v :: r, o, w, cur, h, hl => by
    have hb : Blk w g cur t := h
    have h1 : (w.setCell ⟨g, o, none⟩ v).heap[g]? = some (.cells (cur.setIfInBounds o v) t (0, 0)) := hb.set o v
    have hlen : o < cur.toList.length := by simp at hl ⊢; omega
    have ih := setCells_row g t r (o + 1) (w.setCell ⟨g, o, none⟩ v) _ h1 (by simp at hl ⊢; omega)
    show ((w.setCell ⟨g, o, none⟩ v).setCells g (o + 1) r).heap[g]? = _
    rw [ih]
    congr 3
    rw [Array.toList_setIfInBounds]
    rw [List.take_succ_eq_append_getElem (by rw [List.length_set]; exact hlen), List.getElem_set_self, List.take_set_of_le (Nat.le_refl _), List.drop_set_of_lt (by omega)]
    simp [Nat.add_assoc, Nat.add_comm 1]
theorem below_setCells {B g : Nat} {w0 : World} : ∀ {w : World}, Below B w0 w → B ≤ g → ∀ (vs : List Value) (o : Nat), Below B w0 (w.setCells g o vs)
  | _, h, _, [], _ => h
  | _, h, hg, v :: r, o => below_setCells (h.setCell (p := ⟨g, o, none⟩) hg v) hg r (o + 1)
theorem Reverse_any (w0 w : World) (v : Value) (l : List ByteArray) (hb : BufS w0 w v l) (hl : l.length ≤ 1048577) (hne : l ≠ []) :
    Calls Tryz.prog 129 #[v] w fun e w' => e = .returned (.tuple #[]) ∧ BufS w0 w' v l.reverse := by
  obtain ⟨g, cap, rfl, hg, hlt, hc⟩ := hb.cells (List.length_pos_iff.2 hne)
  rcases hb.own.2 with ⟨h1, _⟩ | ⟨g', cap', cur, h1, _, hh, hcap, hmx, hcs, ht⟩
  · cases h1
  · injection h1 with e1 e2 e3
    injection e1 with e1
    injection e1 with e1
    subst e1 e3
    have hf : ∀ j, j < l.length → w.frozen? ⟨g, 0 + j, none⟩ = false := fun j hj => (show Blk w g cur 9 from hh).free _
    have h := Any.slices_Reverse_string_cells Tryz.laysRev g 0 l.length cap (fun i => l.getD i ⟨#[]⟩) w (by omega) (fun i hi => by rw [Nat.zero_add]; exact hc i hi) hf
    refine h.mono ?_
    rintro e w' ⟨rfl, q, rfl⟩
    refine ⟨rfl, ?_⟩
    have hst : (Lib.strsOf (fun i => l.getD i ⟨#[]⟩) l.length).reverse.map encStr = l.reverse.map Value.string := by
      have e : Lib.strsOf (fun i => l.getD i ⟨#[]⟩) l.length = l.map (·.data.toList) := by
        apply List.ext_getElem
        · rw [Lib.strsOf_length, List.length_map]
        · intro i h1 h2
          rw [List.length_map] at h2
          unfold Lib.strsOf
          simp [List.getElem?_eq_getElem h2]
      rw [e, ← List.map_reverse, List.map_map]
      apply List.map_congr_left
      intro x _
      rfl
    rw [hst]
    have hlr : (l.reverse.map Value.string).length = l.length := by simp
    have hrow := setCells_row g 9 (l.reverse.map Value.string) 0 (w.drewN q) cur hh (by rw [hlr]; omega)
    refine ⟨below_setCells (below_drewN hb.below q) hg _ 0, by simp, .inr ⟨g, cap, _, by rw [List.length_reverse], hg, hrow, by rw [List.length_reverse]; exact hcap, hmx, ?_, ?_⟩⟩
    · simp
      have : cur.size = cap * 1 := hcs
      omega
    · simp
set_option maxHeartbeats 2000000 in
theorem turnedHost_any (h : ByteArray) (c d : UInt8) (w : World) (hs : h.size ≤ 1048576) :
    Calls Tryz.prog 101 #[.string h, .string ⟨#[c]⟩, .string ⟨#[d]⟩] w fun e w' => e = .returned (.string (turnB h c d)) ∧ Below w.heap.size w w' := by
  have HSP := hideB2 (fun W => SplitS_any h c W hs)
  have hls := (splS_le c h)
  have hne := splS_ne c h
  have hz := turnB_size h c d
  unfold turnB at hz ⊢
  generalize splS c h = L at *
  have HRV := hideB2 (fun w0 w1 v (hb : BufS w0 w1 v L) => Reverse_any w0 w1 v L hb (by omega) hne)
  have HJ := hideB2 (fun w0 w1 v (hb : BufS w0 w1 v L.reverse) => JoinS_any w0 w1 v d _ hb (by rw [List.length_reverse]; omega) (by omega))
  clear hls hne hz
  generalize L.reverse = LR at *
  generalize joinS d LR = R at *
  go_enter Tryz.func101, Tryz.ntmps101
  go_wp2_with (first | (go_at_call 128; refine (HSP.out _).mono ?_; rintro e w5 ⟨v5, rfl, hb5⟩) | (go_at_call 129; refine (HRV.out _ _ _ hb5).mono ?_; rintro e w6 ⟨rfl, hb6⟩) | (go_at_call 63; refine (HJ.out _ _ _ hb6).mono ?_; rintro e w7 ⟨rfl, hb7⟩))
  go_ret
  exact ⟨rfl, below_then hb6.below hb7⟩
/-- The same, as the specification puts it together: no byte ahead while there is nothing. -/
def trnS (d : UInt8) (s x : ByteArray) : ByteArray := (if s.size = 0 then s else s ++ (⟨#[d]⟩ : ByteArray)) ++ x
def trnF (d : UInt8) (l : List ByteArray) : ByteArray := l.foldl (trnS d) ⟨#[]⟩
theorem trnF_snoc (d : UInt8) (l : List ByteArray) (x : ByteArray) : trnF d (l ++ [x]) = trnS d (trnF d l) x := by simp [trnF]
theorem trnF_from (d : UInt8) : ∀ (l : List ByteArray) (s : ByteArray), s.size ≠ 0 → l.foldl (trnS d) s = s ++ (⟨(tailS d l).toArray⟩ : ByteArray)
  | [], s, _ => by rw [List.foldl_nil]; exact (bytes_nil_right s).symm
  | x :: r, s, h => by
    rw [List.foldl_cons]
    have e : trnS d s x = (s ++ (⟨#[d]⟩ : ByteArray)) ++ x := by unfold trnS; rw [if_neg h]
    rw [e, trnF_from d r _ (by rw [ByteArray.size_append, ByteArray.size_append]; omega)]
    apply bytes_ext
    rw [Go.Joins.data_append, Go.Joins.data_append, Go.Joins.data_append, Go.Joins.data_append]
    show _ = s.data.toList ++ tailS d (x :: r)
    rw [tailS_cons]
    simp
theorem trnF_join (d : UInt8) (x : ByteArray) (r : List ByteArray) (h : x.size ≠ 0) : trnF d (x :: r) = joinS d (x :: r) := by
  unfold trnF
  rw [List.foldl_cons]
  have e : trnS d ⟨#[]⟩ x = x := by unfold trnS; rw [if_pos (show (⟨#[]⟩ : ByteArray).size = 0 from rfl)]; exact bytes_nil_left x
  rw [e, trnF_from d r x h]
  apply bytes_ext
  have h2 := joinS_tail d x r
  rw [tailS_cons] at h2
  rw [Go.Joins.data_append]
  show x.data.toList ++ tailS d r = _
  injection h2 with _ h2
  exact h2.symm
theorem trnF_size (d : UInt8) (l : List ByteArray) : (trnF d l).size ≤ l.length + sumS l := by
  refine snoc_ind (p := fun l => (trnF d l).size ≤ l.length + sumS l) ?_ ?_ l
  · show (0 : Nat) ≤ _; omega
  · intro q x ih
    rw [trnF_snoc]
    have e : sumS (q ++ [x]) = sumS q + x.size := by simp [sumS]
    rw [List.length_append, List.length_singleton, e]
    unfold trnS
    split
    · rw [ByteArray.size_append]; omega
    · rw [ByteArray.size_append, ByteArray.size_append]
      have e1 : (⟨#[d]⟩ : ByteArray).size = 1 := rfl
      omega
def turnS (h : ByteArray) (c d : UInt8) : ByteArray := trnF d (splS c h).reverse
set_option maxRecDepth 100000 in
set_option maxHeartbeats 4000000 in
theorem l7turned_any (h : ByteArray) (c d : UInt8) (w : World) (hs : h.size ≤ 1048576) :
    Calls Tryz.prog 94 #[.string h, .int .u8 (c.toNat : Int), .string ⟨#[d]⟩] w fun e w' => e = .returned (.string (turnS h c d)) ∧ Below w.heap.size w w' := by
  have HSP := hideB2 (fun W => l7split_any h c W hs)
  have hls := splS_le c h
  have HNX := hideB2 (fun (k : Nat) (hk : k < (splS c h).length) => show trnF d ((splS c h).reverse.take (k + 1)) = trnS d (trnF d ((splS c h).reverse.take k)) ((splS c h).getD ((splS c h).length - 1 - k) ⟨#[]⟩) by
    have h1 : k < (splS c h).reverse.length := by rw [List.length_reverse]; exact hk
    rw [List.take_succ_eq_append_getElem h1, trnF_snoc, List.getElem_reverse, List.getD, List.getElem?_eq_getElem (by omega)]
    rfl)
  have HSZ := hideB2 (fun (k : Nat) => show (trnF d ((splS c h).reverse.take k)).size ≤ 2097153 by
    have h1 := trnF_size d ((splS c h).reverse.take k)
    have h2 : sumS ((splS c h).reverse.take k) ≤ sumS (splS c h) := by
      have := congrArg sumS (List.take_append_drop k (splS c h).reverse)
      rw [sumS_rev] at this
      rw [sumS_app] at this
      omega
    have h3 : ((splS c h).reverse.take k).length ≤ (splS c h).length := by rw [List.length_take, List.length_reverse]; omega
    omega)
  have HXZ := hideB2 (fun j (hj : j < (splS c h).length) => show ((splS c h).getD j ⟨#[]⟩).size ≤ 1048576 by
    rw [List.getD, List.getElem?_eq_getElem hj]
    have := sumS_mem (List.getElem_mem hj)
    simp only [Option.getD_some]
    omega)
  have HEN := hideB2 (show trnF d ((splS c h).reverse.take (splS c h).length) = turnS h c d by unfold turnS; rw [List.take_of_length_le (by rw [List.length_reverse]; exact Nat.le_refl _)])
  have HZ0 := hideB2 (show trnF d ((splS c h).reverse.take 0) = ⟨#[]⟩ from rfl)
  generalize turnS h c d = R at *
  have hd1 : (⟨#[d]⟩ : ByteArray).size = 1 := rfl
  generalize hDD : (⟨#[d]⟩ : ByteArray) = DD at *
  have HDD := hideB2 hDD
  clear hDD
  generalize hF : (fun k => trnF d ((splS c h).reverse.take k)) = F at *
  have HF := hideB2 (fun k => congrFun hF k)
  have HNX2 := hideB2 (fun (k : Nat) (hk : k < (splS c h).length) => show F (k + 1) = (if (F k).size = 0 then F k else F k ++ DD) ++ (splS c h).getD ((splS c h).length - 1 - k) ⟨#[]⟩ by
    rw [← HF.out (k + 1), ← HF.out k, ← HDD.out]; exact HNX.out k hk)
  have HSZ2 := hideB2 (fun k => show (F k).size ≤ 2097153 by rw [← HF.out k]; exact HSZ.out k)
  have HEN2 := hideB2 (show F (splS c h).length = R by rw [← HF.out]; exact HEN.out)
  have HZ2 := hideB2 (show F 0 = ⟨#[]⟩ by rw [← HF.out]; exact HZ0.out)
  clear hF HF HNX HSZ HEN HZ0
  generalize splS c h = L at *
  go_enter Tryz.func94, Tryz.ntmps94
  go_wp2_with fail
  refine (HSP.out _).mono ?_
  rintro e w1 ⟨v1, rfl, hbuf⟩
  have HB := hideB2 hbuf.below
  have hcells := fun (h : 0 < L.length) => hbuf.cells h
  obtain ⟨a, c0, rfl⟩ := hbuf.form
  have HC := hideB2 (show ∀ j, j < L.length → ∃ g, a = some ⟨g, 0, none⟩ ∧ w1.cell? ⟨g, j, none⟩ = some (.string (L.getD j ⟨#[]⟩)) from fun j hj => by
    obtain ⟨g, cap, e, _, hlt, hc⟩ := hcells (by omega)
    injection e with e1
    exact ⟨g, e1, hc j hj⟩)
  clear hcells hbuf HSP
  generalize L.length = n at *
  have e1 : IntKind.i64.wrap ((n : Int) - 1) = (n : Int) - 1 := by rw [IntKind.wrap_i64]; omega
  go_wp2
  go_loop [8, 9] (fun sv iv => ∃ k : Nat, k ≤ n ∧ iv = .int .i64 ((n : Int) - 1 - (k : Int)) ∧ sv = .string (F k)) (fun _ iv => (intOf iv + 1).toNat)
  case atStart => exact ⟨0, Nat.zero_le _, by simp, by rw [HZ2.out]⟩
  case round =>
    obtain ⟨k, hk, rfl, rfl⟩ := hrel
    have hsz := HSZ2.out k
    by_cases hlt : k < n
    · have hnx := HNX2.out k hlt
      obtain ⟨g, rfl, p0⟩ := HC.out (n - 1 - k) (by omega)
      have hxz := HXZ.out (n - 1 - k) (by omega)
      generalize L.getD (n - 1 - k) ⟨#[]⟩ = x at *
      have ei : (n : Int) - 1 - (k : Int) = ((n - 1 - k : Nat) : Int) := by omega
      rw [ei]
      have HEI := hideB2 ei
      have c0 : (0 : Int) ≤ ((n - 1 - k : Nat) : Int) := by omega
      have c1 : ((n - 1 - k : Nat) : Int) < (n : Int) := by omega
      have e2 : IntKind.i64.wrap (((n - 1 - k : Nat) : Int) - 1) = ((n - 1 - k : Nat) : Int) - 1 := by rw [IntKind.wrap_i64]; omega
      clear ei
      by_cases h0 : (F k).size = 0
      · rw [if_pos h0] at hnx
        have HNXX := hideB2 hnx
        have hne := empty_of h0
        clear hnx h0
        generalize F k = y at *
        generalize hm : n - 1 - k = m at *
        have HM := hideB2 hm
        clear hm
        go_wp2
        go_round
        case rel => exact ⟨k + 1, by omega, by have := HM.out; first | (congr 1; omega) | (simp; omega), by rw [HNXX.out]⟩
        case measure => have := HM.out; simp [intOf] <;> omega
      · rw [if_neg h0] at hnx
        have HNXX := hideB2 hnx
        have hne := nonempty_of h0
        clear hnx h0
        have hsz2 : (F k ++ DD).size ≤ 2097154 := by rw [ByteArray.size_append]; omega
        generalize F k = y at *
        generalize hm : n - 1 - k = m at *
        have HM := hideB2 hm
        clear hm
        go_wp2
        go_round
        case rel => exact ⟨k + 1, by omega, by have := HM.out; first | (congr 1; omega) | (simp; omega), by rw [HNXX.out]⟩
        case measure => have := HM.out; simp [intOf] <;> omega
    · obtain rfl : k = n := by omega
      have HE := hideB2 HEN2.out
      have c0 : ¬ ((0 : Int) ≤ (k : Int) - 1 - (k : Int)) := by omega
      go_wp2
      go_ret
      exact ⟨ret_str HE.out.symm, HB.out⟩
end Go.Proofs.YtenjbgpndkodmacGreatDoor
namespace Go.Proofs.YtenjbgpndkodmacGreatDoor
set_option linter.unusedVariables false
set_option linter.unusedSimpArgs false
open Go.RowKit
def surtB (ho pa qu : ByteArray) (po : Int) (hq : Bool) : ByteArray := if urlQ ho pa qu po hq = true then ((((turnB ho 46 44 ++ portB po) ++ (⟨#[41]⟩ : ByteArray)) ++ pa) ++ qryB qu hq) else ⟨#[]⟩
theorem size_nil {x : ByteArray} (h : x.size = 0) : x = ⟨#[]⟩ := by
  apply bytes_ext
  exact List.eq_nil_of_length_eq_zero (by rw [len_data]; exact h)
theorem turnS_ok (h : ByteArray) (d : UInt8) (hq : hostQ h = true) : turnS h 46 d = turnB h 46 d := by
  unfold turnS turnB
  have hp : (splS 46 h).any (fun x => eqB x ⟨#[]⟩) = false := by
    unfold hostQ at hq
    rw [Bool.and_eq_true] at hq
    simpa using hq.2
  cases hr : (splS 46 h).reverse with
  | nil => rfl
  | cons x r =>
    refine trnF_join d x r ?_
    intro h0
    rw [List.any_eq_false] at hp
    have hm : x ∈ splS 46 h := by
      have : x ∈ (splS 46 h).reverse := by rw [hr]; exact List.mem_cons_self
      exact List.mem_reverse.1 this
    exact hp x hm (by rw [size_nil h0]; exact eqB_self _)
set_option maxRecDepth 100000 in
set_option maxHeartbeats 4000000 in
theorem Surt_any (ho pa qu : ByteArray) (po : Int) (hq : Bool) (w : World) (htab : Tab10 w) (hho : ho.size ≤ 1048576) (hpa : pa.size ≤ 1048576) (hqu : qu.size ≤ 1048576) :
    Calls Tryz.prog 103 #[.agg #[.string ho, .int .i64 po, .string pa, .string qu, .bool hq]] w fun e w' => e = .returned (.string (surtB ho pa qu po hq)) ∧ Below w.heap.size w w' := by
  have HB := hideB2 (below_a1 w (.cells #[.string ho, .int .i64 po, .string pa, .string qu, .bool hq] 84))
  have A1 := hideB2 (Blk.new w #[.string ho, .int .i64 po, .string pa, .string qu, .bool hq] 84)
  have HT := hideB2 (tab_later htab HB.out)
  have HU := hideB2 (fun W h => UrlOk_any ho pa qu po hq W h hho hpa hqu)
  have HTU := hideB2 (fun W => turnedHost_any ho 46 44 W hho)
  have HP := hideB2 (fun W h => portText_any ho pa qu po hq W h )
  have HQ := hideB2 (fun W => queryText_any ho pa qu po hq W hqu)
  have hz1 := portB_size po
  have hz2 := qryB_size qu hq
  clear htab
  cases hh : urlQ ho pa qu po hq
  · have HE := hideB2 (show surtB ho pa qu po hq = ⟨#[]⟩ by unfold surtB; rw [hh]; rfl)
    rw [hh] at HU
    clear hh
    go_enter Tryz.func103, Tryz.ntmps103
    go_wp2_with (go_at_call 102; refine (HU.out _ HT.out).mono ?_; rintro e w1 ⟨rfl, hb1⟩)
    go_ret
    exact ⟨ret_str HE.out, below_then HB.out hb1⟩
  · have HE := hideB2 (show surtB ho pa qu po hq = ((((turnB ho 46 44 ++ portB po) ++ (⟨#[41]⟩ : ByteArray)) ++ pa) ++ qryB qu hq) by unfold surtB; rw [hh]; rfl)
    rw [hh] at HU
    have hz3 := turnB_size ho 46 44
    generalize surtB ho pa qu po hq = R at *
    generalize turnB ho 46 44 = T at *
    generalize portB po = P at *
    generalize qryB qu hq = Q at *
    have hs0 : (⟨#[41]⟩ : ByteArray).size = 1 := rfl
    have hs1 : (T ++ P).size ≤ 2097200 := by rw [ByteArray.size_append]; omega
    have hs2 : ((T ++ P) ++ (⟨#[41]⟩ : ByteArray)).size ≤ 2097201 := by rw [ByteArray.size_append]; omega
    have hs3 : (((T ++ P) ++ (⟨#[41]⟩ : ByteArray)) ++ pa).size ≤ 3145800 := by rw [ByteArray.size_append]; omega
    clear hh
    go_enter Tryz.func103, Tryz.ntmps103
    go_wp2_with fail
    refine (HU.out _ HT.out).mono ?_
    rintro e w1 ⟨rfl, hb1⟩
    have HB1 := hideB2 (below_then HB.out hb1)
    have HT1 := hideB2 (tab_later HT.out hb1)
    obtain ⟨p0, p1, p2, p3, p4⟩ := (A1.out.later hb1).u5
    clear hb1 HB A1
    have z0 := fun V => grw_some p0 V
    have z1 := fun V => grw_some p1 V
    have z2 := fun V => grw_some p2 V
    have z3 := fun V => grw_some p3 V
    have z4 := fun V => grw_some p4 V
    have HTV := hideB2 (fun V : Gr w1 => tab_later HT1.out (grw_below w1 V))
    clear p0 p1 p2 p3 p4
    go_wp2
    refine wp_region_grow ?_ ?_ ?_
    · kernel_rfl
    · kernel_rfl
    · intro hne0
      repeat (go_big_quiet_step ((first | (go_at_call 101; exact grow_call (HTU.out _)) | (go_at_call 135; exact grow_call (HP.out _ (HTV.out _))) | (go_at_call 136; exact grow_call (HQ.out _)))))
      refine wpQuiet_nil ?_
      rintro _ ⟨V, rfl⟩
      have HBV := hideB2 (below_then HB1.out (grw_below w1 V))
      generalize grw w1 V = w3 at *
      go_wp2
      go_ret
      exact ⟨ret_str HE.out, HBV.out⟩
set_option maxRecDepth 100000 in
set_option maxHeartbeats 4000000 in
theorem sSurt_any (ho pa qu : ByteArray) (po : Int) (hq : Bool) (w : World) (hho : ho.size ≤ 1048576) (hpa : pa.size ≤ 1048576) (hqu : qu.size ≤ 1048576) :
    Calls Tryz.prog 95 #[.agg #[.string ho, .int .i64 po, .string pa, .string qu, .bool hq]] w fun e w' => e = .returned (.string (surtB ho pa qu po hq)) ∧ Below w.heap.size w w' := by
  have HB := hideB2 (below_a1 w (.cells #[.string ho, .int .i64 po, .string pa, .string qu, .bool hq] 84))
  have A1 := hideB2 (Blk.new w #[.string ho, .int .i64 po, .string pa, .string qu, .bool hq] 84)
  have HU := hideB2 (fun W => sUrlOk_any ho pa qu po hq W hho hpa hqu)
  have HTU := hideB2 (fun W => l7turned_any ho 46 44 W hho)
  have HP := hideB2 (fun W => l7port_any ho pa qu po hq W )
  have HQ := hideB2 (fun W => l7query_any ho pa qu po hq W hqu)
  have hz1 := portB_size po
  have hz2 := qryB_size qu hq
  cases hh : urlQ ho pa qu po hq
  · have HE := hideB2 (show surtB ho pa qu po hq = ⟨#[]⟩ by unfold surtB; rw [hh]; rfl)
    rw [hh] at HU
    clear hh
    go_enter Tryz.func95, Tryz.ntmps95
    go_wp2_with (go_at_call 121; refine (HU.out _).mono ?_; rintro e w1 ⟨rfl, hb1⟩)
    go_ret
    exact ⟨ret_str HE.out, below_then HB.out hb1⟩
  · have HE := hideB2 (show surtB ho pa qu po hq = ((((turnB ho 46 44 ++ portB po) ++ (⟨#[41]⟩ : ByteArray)) ++ pa) ++ qryB qu hq) by unfold surtB; rw [hh]; rfl)
    have hte := turnS_ok ho 44 (by have := hh; unfold urlQ at this; simp only [Bool.and_eq_true] at this; exact this.1.1.1.1.1)
    rw [hte] at HTU
    clear hte
    rw [hh] at HU
    have hz3 := turnB_size ho 46 44
    generalize surtB ho pa qu po hq = R at *
    generalize turnB ho 46 44 = T at *
    generalize portB po = P at *
    generalize qryB qu hq = Q at *
    have hs0 : (⟨#[41]⟩ : ByteArray).size = 1 := rfl
    have hs1 : (T ++ P).size ≤ 2097200 := by rw [ByteArray.size_append]; omega
    have hs2 : ((T ++ P) ++ (⟨#[41]⟩ : ByteArray)).size ≤ 2097201 := by rw [ByteArray.size_append]; omega
    have hs3 : (((T ++ P) ++ (⟨#[41]⟩ : ByteArray)) ++ pa).size ≤ 3145800 := by rw [ByteArray.size_append]; omega
    clear hh
    go_enter Tryz.func95, Tryz.ntmps95
    go_wp2_with fail
    refine (HU.out _).mono ?_
    rintro e w1 ⟨rfl, hb1⟩
    have HB1 := hideB2 (below_then HB.out hb1)
    obtain ⟨p0, p1, p2, p3, p4⟩ := (A1.out.later hb1).u5
    clear hb1 HB A1
    have z0 := fun V => grw_some p0 V
    have z1 := fun V => grw_some p1 V
    have z2 := fun V => grw_some p2 V
    have z3 := fun V => grw_some p3 V
    have z4 := fun V => grw_some p4 V
    clear p0 p1 p2 p3 p4
    go_wp2
    refine wp_region_grow ?_ ?_ ?_
    · kernel_rfl
    · kernel_rfl
    · intro hne0
      repeat (go_big_quiet_step ((first | (go_at_call 94; exact grow_call (HTU.out _)) | (go_at_call 122; exact grow_call (HP.out _)) | (go_at_call 123; exact grow_call (HQ.out _)))))
      refine wpQuiet_nil ?_
      rintro _ ⟨V, rfl⟩
      have HBV := hideB2 (below_then HB1.out (grw_below w1 V))
      generalize grw w1 V = w3 at *
      go_wp2
      go_ret
      exact ⟨ret_str HE.out, HBV.out⟩
end Go.Proofs.YtenjbgpndkodmacGreatDoor
namespace Go.Proofs.YtenjbgpndkodmacGreatDoor
set_option linter.unusedVariables false
set_option linter.unusedSimpArgs false
open Go.RowKit

def rdecN (s : ByteArray) : Int := ((rdec s).getD 0 : Nat)
def rdecOk (s : ByteArray) : Bool := (rdec s).isSome
theorem rdec_none {s : ByteArray} (h : rdec s = none) : rdecN s = 0 ∧ rdecOk s = false := by simp [rdecN, rdecOk, h]
theorem rdec_some {s : ByteArray} {u : Nat} (h : rdec s = some u) : rdecN s = (u : Int) ∧ rdecOk s = true := by simp [rdecN, rdecOk, h]
theorem ret_ib {k : IntKind} {n m : Int} {a b : Bool} (h : m = n) (h' : b = a) : Ending.returned (.tuple #[.int k n, .bool a]) = .returned (.tuple #[.int k m, .bool b]) := by rw [h, h']

set_option maxHeartbeats 1000000 in
theorem sReadDec_any (s : ByteArray) (w : World) (hs : s.size ≤ maxLen) :
    Calls Tryz.prog 65 #[.string s] w fun e w' => e = .returned (.tuple #[.int .i64 (rdecN s), .bool (rdecOk s)]) ∧ Below w.heap.size w w' := by
  unfold maxLen at hs
  by_cases h0 : s.size = 0
  · have hr := rdec_none (rdec_size s (Or.inl h0))
    have hne : ((s.size : Int) == 0) = true := by rw [beq_iff_eq]; omega
    rw [hr.1, hr.2]
    clear hr
    go_enter Tryz.func65, Tryz.ntmps65
    go_wp2
    go_ret2
    exact ⟨rfl, Below.refl _ _⟩
  · have hne2 : ((s.size : Int) == 0) = false := by rw [Bool.eq_false_iff, ne_eq, beq_iff_eq]; omega
    by_cases hbig : (15 : Int) < (s.size : Int)
    · have hr := rdec_none (rdec_size s (Or.inr (by omega)))
      rw [hr.1, hr.2]
      clear hr
      go_enter Tryz.func65, Tryz.ntmps65
      go_wp2
      go_ret2
      exact ⟨rfl, Below.refl _ _⟩
    · go_enter Tryz.func65, Tryz.ntmps65
      go_wp2
      clear hne2
      go_loop [4, 5] (fun n i => ∃ k : Nat, k ≤ s.size ∧ i = .int .i64 k ∧ n = .int .i64 (valL (s.data.toList.take k) : Nat) ∧ allDig (s.data.toList.take k) = true) (fun _ i => s.size - (intOf i).toNat)
      case atStart => exact ⟨0, Nat.zero_le _, rfl, rfl, rfl⟩
      case round =>
        obtain ⟨k, hk, rfl, rfl, hall⟩ := hrel
        have Hall : Hid (allDig (s.data.toList.take k) = true) := hall
        have hvl : valL (s.data.toList.take k) < 1000000000000000 := by
          have h1 := valL_lt _ hall
          have h3 : 10 ^ (s.data.toList.take k).length ≤ 10 ^ 15 := Nat.pow_le_pow_right (by decide) (by simp; omega)
          have h4 : (10 : Nat) ^ 15 = 1000000000000000 := by decide
          omega
        clear hall
        by_cases hlt : k < s.size
        · cases hg0 : dig8 (at8 s k)
          · have hg : digP (s[k].toNat : Int) = false := by rw [at8_eq s k hlt]; exact hg0
            have hfin : Hid (rdecN s = 0 ∧ rdecOk s = false) := rdec_none (rdec_nodig s k hlt hg0)
            clear hg0
            go_wp2_with (go_at_call 88; refine (l1digit_any _ _).mono ?_; rintro e w' ⟨rfl, rfl⟩)
            go_ret2
            exact ⟨ret_ib hfin.out.1 hfin.out.2, Below.refl _ _⟩
          · have hg : digP (s[k].toNat : Int) = true := by rw [at8_eq s k hlt]; exact hg0
            have hb := (dig8_iff _).1 hg0
            have hval : Hid (valL (s.data.toList.take (k + 1)) = valL (s.data.toList.take k) * 10 + (s[k].toNat - 48)) := by
              show _ = _
              rw [allDig_take_succ s k hlt, valL_snoc, at8_eq s k hlt]
            have Hall2 : Hid (allDig (s.data.toList.take (k + 1)) = true) := by
              show _ = _
              rw [allDig_take_succ s k hlt]; exact allDig_snoc _ _ Hall.out hg0
            have hb1 : 48 ≤ s[k].toNat := by rw [at8_eq s k hlt]; exact hb.1
            have hb2 : s[k].toNat ≤ 57 := by rw [at8_eq s k hlt]; exact hb.2
            clear hg0 hb
            generalize valL (s.data.toList.take k) = v at *
            go_wp2_with (go_at_call 88; refine (l1digit_any _ _).mono ?_; rintro e w' ⟨rfl, rfl⟩)
            go_round
            case rel => exact ⟨k + 1, by omega, by go_num, congrArg (Value.int .i64) (by rw [hval.out]; omega), Hall2.out⟩
            case measure => simp [intOf]; omega
        · obtain rfl : k = s.size := by omega
          have ht : s.data.toList.take s.size = s.data.toList := List.take_of_length_le (by rw [len_data]; exact Nat.le_refl _)
          rw [ht] at Hall hvl ⊢
          have hd := decDigits_len (valL s.data.toList) (by omega)
          have hfin : Hid ((eqB (decB (valL s.data.toList)) s = true ∧ rdecN s = (valL s.data.toList : Nat) ∧ rdecOk s = true) ∨ (eqB (decB (valL s.data.toList)) s = false ∧ rdecN s = 0 ∧ rdecOk s = false)) := by
            show _ ∨ _
            by_cases he : Lib.decDigits (valL s.data.toList) = s.data.toList
            · left
              exact ⟨eqB_iff.2 (bytes_ext he), rdec_some (rdec_yes s (by omega) (by omega) Hall.out he)⟩
            · right
              refine ⟨Bool.eq_false_iff.2 (fun hh => he ?_), rdec_none (rdec_ne s he)⟩
              exact (decB_list _).symm.trans (congrArg (fun x : ByteArray => x.data.toList) (eqB_iff.1 hh))
          clear Hall ht hd
          generalize valL s.data.toList = v at *
          rcases hfin.out with ⟨he, hn, ho⟩ | ⟨he, hn, ho⟩
          all_goals
            have HF : Hid (rdecN s = _ ∧ rdecOk s = _) := ⟨hn, ho⟩
            clear hn ho hfin
            unfold eqB at he
            go_wp2_with (go_at_call 56; refine (sDecText_nat _ _ (by omega)).mono ?_; rintro e w1 ⟨rfl, hb⟩)
            go_ret2
            exact ⟨ret_ib HF.out.1 HF.out.2, hb⟩
set_option maxHeartbeats 1000000 in
theorem ReadDec_any (s : ByteArray) (w : World) (hs : s.size ≤ maxLen) :
    Calls Tryz.prog 92 #[.string s] w fun e w' => e = .returned (.tuple #[.int .i64 (rdecN s), .bool (rdecOk s)]) ∧ w' = w := by
  unfold maxLen at hs
  by_cases h0 : s.size = 0
  · have hr := rdec_none (rdec_size s (Or.inl h0))
    have hne : s.toList.isEmpty = true := by rw [ByteArray.toList_eq, List.isEmpty_iff, ← List.length_eq_zero_iff, Array.length_toList]; exact h0
    rw [hr.1, hr.2]
    clear hr
    go_enter Tryz.func92, Tryz.ntmps92
    go_wp2
    go_ret2
    exact ⟨rfl, rfl⟩
  · have hne : s.toList.isEmpty = false := by
      rw [ByteArray.toList_eq, List.isEmpty_eq_false_iff]
      intro hh
      apply h0
      rw [← len_data, hh]; rfl
    have hpos : 0 < s.size := by omega
    by_cases hz : (at8 s 0).toNat = 48 ∧ s.data.toList ≠ [48]
    · have hr := rdec_none (rdec_zero s hpos hz.1 hz.2)
      have hq1 : ((s[0].toNat : Int) == 48) = true := by rw [beq_iff_eq, at8_eq s 0 hpos]; omega
      have hq2 : (s.toList == [48]) = false := by rw [ByteArray.toList_eq, beq_eq_false_iff_ne]; exact hz.2
      rw [hr.1, hr.2]
      clear hr hz
      go_enter Tryz.func92, Tryz.ntmps92
      go_wp2
      go_ret2
      exact ⟨rfl, rfl⟩
    · have hz' : Hid ((at8 s 0).toNat ≠ 48 ∨ s.data.toList = [48]) := by
        show _ ∨ _
        by_cases h1 : (at8 s 0).toNat = 48
        · right; exact Classical.byContradiction fun h2 => hz ⟨h1, h2⟩
        · left; exact h1
      have hway : (((s[0].toNat : Int) == 48) = false) ∨ (((s[0].toNat : Int) == 48) = true ∧ (s.toList == [48]) = true) := by
        rcases hz'.out with h | h
        · left; rw [beq_eq_false_iff_ne, at8_eq s 0 hpos]; omega
        · by_cases h1 : ((s[0].toNat : Int) == 48) = true
          · right; exact ⟨h1, by rw [ByteArray.toList_eq, h]; rfl⟩
          · left; simpa using h1
      clear hz
      rcases hway with hq1 | ⟨hq1, hq2⟩
      all_goals
        go_enter Tryz.func92, Tryz.ntmps92
        go_wp2
        clear hne
        go_loop [4, 19] (fun n i => ∃ k : Nat, k ≤ s.size ∧ i = .int .i64 k ∧ n = .int .i64 (valL (s.data.toList.take k) : Nat) ∧ allDig (s.data.toList.take k) = true ∧ valL (s.data.toList.take k) ≤ 999999999999999) (fun _ i => s.size - (intOf i).toNat)
        case atStart => exact ⟨0, Nat.zero_le _, rfl, rfl, rfl, by simp [valL]⟩
        case round =>
          obtain ⟨k, hk, rfl, rfl, hall, hvl⟩ := hrel
          have Hall : Hid (allDig (s.data.toList.take k) = true) := hall
          clear hall
          by_cases hlt : k < s.size
          · cases hg0 : dig8 (at8 s k)
            · have hg : digP (s[k].toNat : Int) = false := by rw [at8_eq s k hlt]; exact hg0
              have hfin : Hid (rdecN s = 0 ∧ rdecOk s = false) := rdec_none (rdec_nodig s k hlt hg0)
              clear hg0
              go_wp2_with (go_at_call 120; refine (digitByte_any _ _).mono ?_; rintro e w' ⟨rfl, rfl⟩)
              go_ret2
              exact ⟨ret_ib hfin.out.1 hfin.out.2, rfl⟩
            · have hg : digP (s[k].toNat : Int) = true := by rw [at8_eq s k hlt]; exact hg0
              have hb := (dig8_iff _).1 hg0
              have hval0 : valL (s.data.toList.take (k + 1)) = valL (s.data.toList.take k) * 10 + (s[k].toNat - 48) := by
                rw [allDig_take_succ s k hlt, valL_snoc, at8_eq s k hlt]
              have Hall2 : Hid (allDig (s.data.toList.take (k + 1)) = true) := by
                show _ = _
                rw [allDig_take_succ s k hlt]; exact allDig_snoc _ _ Hall.out hg0
              have hb1 : 48 ≤ s[k].toNat := by rw [at8_eq s k hlt]; exact hb.1
              have hb2 : s[k].toNat ≤ 57 := by rw [at8_eq s k hlt]; exact hb.2
              have hbig : Hid (999999999999999 < valL (s.data.toList.take (k + 1)) → rdecN s = 0 ∧ rdecOk s = false) := fun h => rdec_none (rdec_big s (k + 1) hlt Hall2.out h)
              have hval : Hid (valL (s.data.toList.take (k + 1)) = valL (s.data.toList.take k) * 10 + (s[k].toNat - 48)) := hval0
              clear hg0 hb hval0
              generalize valL (s.data.toList.take k) = v at *
              by_cases hover : (999999999999999 : Int) < (v : Int) * 10 + ((s[k].toNat : Int) - 48)
              · go_wp2_with (go_at_call 120; refine (digitByte_any _ _).mono ?_; rintro e w' ⟨rfl, rfl⟩)
                go_ret2
                have hh := hbig.out (by rw [hval.out]; omega)
                exact ⟨ret_ib hh.1 hh.2, rfl⟩
              · go_wp2_with (go_at_call 120; refine (digitByte_any _ _).mono ?_; rintro e w' ⟨rfl, rfl⟩)
                go_round
                case rel => exact ⟨k + 1, by omega, by go_num, congrArg (Value.int .i64) (by rw [hval.out]; omega), Hall2.out, by rw [hval.out]; omega⟩
                case measure => simp [intOf]; omega
          · obtain rfl : k = s.size := by omega
            have ht : s.data.toList.take s.size = s.data.toList := List.take_of_length_le (by rw [len_data]; exact Nat.le_refl _)
            rw [ht] at Hall hvl ⊢
            have hfin : Hid (rdecN s = (valL s.data.toList : Nat) ∧ rdecOk s = true) := rdec_some (rdec_end s hpos Hall.out hz'.out hvl)
            clear ht
            generalize valL s.data.toList = v at *
            go_wp2
            go_ret2
            exact ⟨ret_ib hfin.out.1 hfin.out.2, rfl⟩
end Go.Proofs.YtenjbgpndkodmacGreatDoor
namespace Go.Proofs.YtenjbgpndkodmacGreatDoor
set_option linter.unusedVariables false
set_option linter.unusedSimpArgs false
open Go.RowKit
/-- An address. -/
structure Ur where
  ho : ByteArray
  pa : ByteArray
  qu : ByteArray
  po : Int
  hq : Bool
def ur0 : Ur := ⟨⟨#[]⟩, ⟨#[]⟩, ⟨#[]⟩, 0, false⟩
def valU (u : Ur) : Value := .agg #[.string u.ho, .int .i64 u.po, .string u.pa, .string u.qu, .bool u.hq]
def urQ (u : Ur) : Bool := urlQ u.ho u.pa u.qu u.po u.hq
/-- The authority: up to the first / or ?. -/
def auU (r : ByteArray) : ByteArray := uptS 47 (uptS 63 r)
theorem ext_all (s : ByteArray) : s.extract 0 s.size = s := by
  apply bytes_ext
  rw [Lib.extract_data, List.drop_zero]
  exact List.take_of_length_le (by rw [len_data]; omega)
theorem auU_size (r : ByteArray) : (auU r).size ≤ r.size := Nat.le_trans (uptS_size _ _) (uptS_size _ _)
theorem auU_at {r : ByteArray} {i : Nat} (hi : i < r.size) (h0 : ∀ j, j < i → at8 r j ≠ 47 ∧ at8 r j ≠ 63) (h : at8 r i = 47 ∨ at8 r i = 63) : auU r = r.extract 0 i := by
  have pre : ∀ k, i ≤ k → k ≤ r.size → ∀ j, j < i → at8 (r.extract 0 k) j = at8 r j := fun k hk hk2 j hj => by
    rw [at8_extS hk2 (by omega), Nat.zero_add]
  unfold auU
  rcases h with h | h
  · rcases idxS_cases 63 r with h1 | ⟨k, h1, hk⟩
    · rw [uptS_none h1]
      exact uptS_some (idxS_of hi h (fun j hj => (h0 j hj).1))
    · obtain ⟨g1, g2, g3⟩ := idxS_some h1
      have hik : i < k := by
        rcases Nat.lt_trichotomy k i with h2 | h2 | h2
        · exact absurd g2 (h0 k h2).2
        · subst h2; rw [h] at g2; cases g2
        · exact h2
      rw [uptS_some h1]
      have e1 : idxS 47 (r.extract 0 k) = (i : Int) := by
        refine idxS_of (by rw [ByteArray.size_extract]; omega) ?_ ?_
        · rw [at8_extS (by omega) (by omega), Nat.zero_add]; exact h
        · intro j hj; rw [pre k (by omega) (by omega) j hj]; exact (h0 j hj).1
      rw [uptS_some e1, ByteArray.extract_extract]
      congr 1; omega
  · rw [uptS_some (idxS_of hi h (fun j hj => (h0 j hj).2))]
    refine (uptS_none (idxS_miss ?_))
    intro j hj
    have hj2 : j < i := by rw [ByteArray.size_extract] at hj; omega
    rw [pre i (Nat.le_refl _) (by omega) j hj2]
    exact (h0 j hj2).1
theorem auU_none {r : ByteArray} (h0 : ∀ j, j < r.size → at8 r j ≠ 47 ∧ at8 r j ≠ 63) : auU r = r := by
  unfold auU
  rw [uptS_none (idxS_miss (fun j hj => (h0 j hj).2))]
  exact uptS_none (idxS_miss (fun j hj => (h0 j hj).1))
theorem auU_no (r : ByteArray) : idxS 47 (auU r) = -1 ∧ idxS 63 (auU r) = -1 := by
  have key : ∀ (c : UInt8) (s : ByteArray), idxS c (uptS c s) = -1 := by
    intro c s
    rcases idxS_cases c s with h | ⟨i, h, hi⟩
    · rw [uptS_none h]; exact h
    · obtain ⟨g1, g2, g3⟩ := idxS_some h
      rw [uptS_some h]
      refine idxS_miss (fun j hj => ?_)
      have : j < i := by rw [ByteArray.size_extract] at hj; omega
      rw [at8_extS (by omega) (by omega), Nat.zero_add]
      exact g3 j this
  refine ⟨key 47 _, ?_⟩
  unfold auU
  have h63 := key 63 r
  generalize uptS 63 r = f at *
  rcases idxS_cases 47 f with h | ⟨i, h, hi⟩
  · rw [uptS_none h]; exact h63
  · rw [uptS_some h]
    refine idxS_miss (fun j hj => ?_)
    have h2 : j < i := by rw [ByteArray.size_extract] at hj; omega
    rw [at8_extS (by omega) (by omega), Nat.zero_add]
    exact idxS_none h63 j (by omega)
/-- The rest, and how it is cut at its ?. -/
def reU (r : ByteArray) : ByteArray := r.extract (auU r).size r.size
theorem idx_shift {c : UInt8} {r : ByteArray} {n : Nat} (hn : n ≤ r.size) (h0 : ∀ j, j < n → at8 r j ≠ c) : (idxS c (r.extract n r.size) = -1 ∧ idxS c r = -1) ∨ ∃ i : Nat, idxS c (r.extract n r.size) = (i : Int) ∧ idxS c r = ((n + i : Nat) : Int) ∧ n + i < r.size := by
  have hz : (r.extract n r.size).size = r.size - n := by rw [ByteArray.size_extract]; omega
  rcases idxS_cases c (r.extract n r.size) with h | ⟨i, h, hi⟩
  · left
    refine ⟨h, idxS_miss (fun j hj => ?_)⟩
    rcases Nat.lt_or_ge j n with h1 | h1
    · exact h0 j h1
    · have := idxS_none h (j - n) (by omega)
      rwa [at8_extS (Nat.le_refl _) (by omega), show n + (j - n) = j by omega] at this
  · right
    obtain ⟨g1, g2, g3⟩ := idxS_some h
    refine ⟨i, h, idxS_of (by omega) ?_ ?_, by omega⟩
    · rwa [at8_extS (Nat.le_refl _) (by omega)] at g2
    · intro j hj
      rcases Nat.lt_or_ge j n with h1 | h1
      · exact h0 j h1
      · have := g3 (j - n) (by omega)
        rwa [at8_extS (Nat.le_refl _) (by omega), show n + (j - n) = j by omega] at this
theorem ext_congr {s : ByteArray} {a b a' b' : Nat} (h1 : a = a') (h2 : b = b') : s.extract a b = s.extract a' b' := by rw [h1, h2]
theorem auU_pre (r : ByteArray) : auU r = r.extract 0 (auU r).size := by
  unfold auU
  rcases idxS_cases 63 r with h | ⟨i, h, hi⟩
  · rw [uptS_none h]
    rcases idxS_cases 47 r with g | ⟨k, g, hk⟩
    · rw [uptS_none g]; exact (ext_all r).symm
    · rw [uptS_some g, ByteArray.size_extract]; congr 1; omega
  · rw [uptS_some h]
    rcases idxS_cases 47 (r.extract 0 i) with g | ⟨k, g, hk⟩
    · rw [uptS_none g, ByteArray.size_extract]; congr 1; omega
    · have hz : (r.extract 0 i).size = i := by rw [ByteArray.size_extract]; omega
      rw [uptS_some g, ByteArray.extract_extract, ByteArray.size_extract]
      congr 1 <;> omega
theorem auU_head (r : ByteArray) : ∀ j, j < (auU r).size → at8 r j ≠ 63 := by
  intro j hj
  have h := idxS_none (auU_no r).2 j hj
  have hs := auU_size r
  have e : at8 (auU r) j = at8 r j := by
    have h1 := at8_extS (s := r) (a := 0) (b := (auU r).size) (j := j) hs (by omega)
    rw [← auU_pre r, Nat.zero_add] at h1
    exact h1
  rwa [e] at h
/-- Cut at ? the rest gives the path and the query as the whole does. -/
theorem reU_cut (r : ByteArray) : uptS 63 (reU r) = (uptS 63 r).extract (auU r).size (uptS 63 r).size ∧ bhS 63 (reU r) = bhS 63 r ∧ hasS 63 (reU r) = hasS 63 r ∧ (auU r).size ≤ (uptS 63 r).size := by
  have hs := auU_size r
  have hsu : (auU r).size ≤ (uptS 63 r).size := uptS_size _ _
  rcases idx_shift (c := 63) hs (auU_head r) with ⟨h1, h2⟩ | ⟨i, h1, h2, h3⟩
  · obtain ⟨a1, a2, a3⟩ := cut_none h1
    obtain ⟨b1, b2, b3⟩ := cut_none h2
    unfold reU
    rw [a1, a2, a3, b1, b2, b3]
    rw [b1] at hsu
    exact ⟨rfl, rfl, rfl, hsu⟩
  · obtain ⟨a1, a2, a3⟩ := cut_some h1
    obtain ⟨b1, b2, b3⟩ := cut_some h2
    have hz : (r.extract (auU r).size r.size).size = r.size - (auU r).size := by rw [ByteArray.size_extract]; omega
    unfold reU
    rw [a1, a2, a3, b1, b2, b3]
    rw [b1] at hsu
    refine ⟨?_, ?_, rfl, hsu⟩
    · rw [ByteArray.extract_extract, ByteArray.extract_extract]
      have e2 : (r.extract 0 ((auU r).size + i)).size = (auU r).size + i := by rw [ByteArray.size_extract]; omega
      rw [e2]
      exact ext_congr (by omega) (by omega)
    · rw [hz, ByteArray.extract_extract]
      exact ext_congr (by omega) (by omega)
/-- The parts as they stand. -/
def lsU (a e : ByteArray) : Ur := ⟨uptS 58 a, uptS 63 e, bhS 63 e, if hasS 58 a = true then rdecN (bhS 58 a) else 80, hasS 63 e⟩
def rootB : ByteArray := ⟨#[47]⟩
def rdK (r : ByteArray) : Ur := ⟨foldB (uptS 58 (auU r)), clnB (if (uptS 63 (reU r)).size = 0 then rootB else uptS 63 (reU r)), bhS 63 r, if hasS 58 (auU r) = true then rdecN (bhS 58 (auU r)) else 80, hasS 63 r⟩
def pre7 (s : ByteArray) : Bool := decide (7 ≤ s.size) && eqB (foldB (s.extract 0 7)) schB
def rdA (s : ByteArray) : Bool := targQ s && decide (idxS 35 s < 0) && pre7 s
def rdO (s : ByteArray) : Bool := rdA s && urQ (rdK (s.extract 7 s.size))
def rdU (s : ByteArray) : Ur := if rdO s = true then rdK (s.extract 7 s.size) else ur0
theorem ret_ssU {a b x y : ByteArray} (h1 : x = a) (h2 : y = b) : Ending.returned (.tuple #[.string a, .string b]) = .returned (.tuple #[.string x, .string y]) := by rw [h1, h2]
end Go.Proofs.YtenjbgpndkodmacGreatDoor
namespace Go.Proofs.YtenjbgpndkodmacGreatDoor
set_option linter.unusedVariables false
set_option linter.unusedSimpArgs false
open Go.ChangeShapes Go.WideShapes Go.ChangeAt Go.RowKit
/-- What is asked of an address that came in. -/
structure ArgU (ho pa qu : ByteArray) : Prop where
  zho : ho.size ≤ maxLen
  zpa : pa.size ≤ maxLen
  zqu : qu.size ≤ maxLen
theorem array5 {α : Type} {cs : Array α} (h : cs.size = 5) : ∃ c0 c1 c2 c3 c4, cs = #[c0, c1, c2, c3, c4] := by
  obtain ⟨l⟩ := cs
  match l, h with
  | [c0, c1, c2, c3, c4], _ => exact ⟨c0, c1, c2, c3, c4, rfl⟩
set_option maxRecDepth 100000 in
theorem open_url {H : Type} {enc : TypeId × Value → H} {w : World} {base : Nat} {spare : Nat → Bool} {held : Bool} {r : Reach} {b0 : Nat} {t : TypeId} {f0 f1 f2 f3 f4 : Field} {v : Value} {d : DataW H} {p : List MemPlace}
    (hs : Tryz.prog.underlying t = some (.struct #[f0, f1, f2, f3, f4])) (hone : Go.Deep.oneCellFields Tryz.prog #[f0, f1, f2, f3, f4] = true) (hC : Tryz.prog.cellsOf t = 5)
    (e0 : Tryz.prog.underlying f0.type = some .string) (e1 : Tryz.prog.underlying f1.type = some (.int .i64)) (e2 : Tryz.prog.underlying f2.type = some .string) (e3 : Tryz.prog.underlying f3.type = some .string) (e4 : Tryz.prog.underlying f4.type = some .bool)
    (hv : Value.okWide Tryz.prog w r b0 t v) (h : DataW.Trod enc Tryz.prog w base spare held t v d p) :
    ∃ (ho pa qu : ByteArray) (po : Int) (hq : Bool), v = .agg #[.string ho, .int .i64 po, .string pa, .string qu, .bool hq] ∧ ArgU ho pa qu := by
  obtain ⟨cs, rfl, hsz⟩ := okWide_struct hs hv
  obtain ⟨c0, c1, c2, c3, c4, rfl⟩ := array5 (hsz.trans hC)
  obtain ⟨fuel, hf⟩ := h
  obtain ⟨xs, n, _, _, hl, hlen, hf⟩ := DataW.trod_struct hs hf
  obtain ⟨o0, k0⟩ := Go.Deep.hone_of hone 0 f0 rfl
  obtain ⟨o1, k1⟩ := Go.Deep.hone_of hone 1 f1 rfl
  obtain ⟨o2, k2⟩ := Go.Deep.hone_of hone 2 f2 rfl
  obtain ⟨o3, k3⟩ := Go.Deep.hone_of hone 3 f3 rfl
  obtain ⟨o4, k4⟩ := Go.Deep.hone_of hone 4 f4 rfl
  have g : ∀ j, j < 5 → ∃ y, xs[j]? = some y := by
    intro j hj
    have : xs.length = 5 := by simpa using hlen
    exact ⟨_, List.getElem?_eq_getElem (by omega)⟩
  have str : ∀ {ty : TypeId} {c : Value} {x : Option (DataW H × List MemPlace)}, Tryz.prog.underlying ty = some .string → (∃ y, x = some y) → DataW.trod enc Tryz.prog w base spare held n ty [c] = x → ∃ z : ByteArray, c = .string z ∧ z.size ≤ maxLen := by
    intro ty c x hu ⟨y, hy⟩ ht
    rw [hy] at ht
    obtain ⟨z, hz, _, hw⟩ := DataW.trod_string hu ht
    exact ⟨z, by simpa using hz, hw⟩
  obtain ⟨ho, rfl, z0⟩ := str e0 (g 0 (by omega)) (by simpa [Value.cells, o0, k0] using hf 0 f0 rfl)
  obtain ⟨y1, hy1⟩ := g 1 (by omega)
  have t1 : DataW.trod enc Tryz.prog w base spare held n f1.type [c1] = xs[1]? := by simpa [Value.cells, o1, k1] using hf 1 f1 rfl
  rw [hy1] at t1
  obtain ⟨po, hst, _, _⟩ := DataW.trod_int e1 t1
  obtain rfl : c1 = .int .i64 po := by simpa using hst
  obtain ⟨pa, rfl, z2⟩ := str e2 (g 2 (by omega)) (by simpa [Value.cells, o2, k2] using hf 2 f2 rfl)
  obtain ⟨qu, rfl, z3⟩ := str e3 (g 3 (by omega)) (by simpa [Value.cells, o3, k3] using hf 3 f3 rfl)
  obtain ⟨y4, hy4⟩ := g 4 (by omega)
  have t4 : DataW.trod enc Tryz.prog w base spare held n f4.type [c4] = xs[4]? := by simpa [Value.cells, o4, k4] using hf 4 f4 rfl
  rw [hy4] at t4
  obtain ⟨hq, hba, _⟩ := DataW.trod_bool e4 t4
  obtain rfl : c4 = .bool hq := by simpa using hba
  exact ⟨ho, pa, qu, po, hq, rfl, z0, z2, z3⟩
theorem Tryz.infoUrl : (Tryz.prog.info? 84).map (·.size) = some 5 := by kernel_rfl
end Go.Proofs.YtenjbgpndkodmacGreatDoor
