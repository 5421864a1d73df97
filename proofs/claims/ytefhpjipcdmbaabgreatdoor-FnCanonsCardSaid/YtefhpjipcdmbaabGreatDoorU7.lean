/-
  Chapter 7: an address's text, and is it one; the program's side.
-/
import Derived.Test.YtefhpjipcdmbaabGreatDoorU6
import Derived.Test.YtefhpjipcdmbaabGreatDoorBK
import Derived.Test.YtefhpjipcdmbaabGreatDoorGR
import Derived.Lib.QuietBelow
namespace Go.Proofs.YtefhpjipcdmbaabGreatDoor
set_option linter.unusedVariables false
set_option linter.unusedSimpArgs false
open Go.RowKit
theorem Blk.u5 {w : World} {g : Nat} {a b c d e : Value} {t : TypeId} (H : Blk w g #[a, b, c, d, e] t) : w.cell? ⟨g, 0, none⟩ = some a ∧ w.cell? ⟨g, 1, none⟩ = some b ∧ w.cell? ⟨g, 2, none⟩ = some c ∧ w.cell? ⟨g, 3, none⟩ = some d ∧ w.cell? ⟨g, 4, none⟩ = some e :=
  ⟨H.cell 0, H.cell 1, H.cell 2, H.cell 3, H.cell 4⟩
theorem eqB_nilU {s : ByteArray} : eqB s ⟨#[]⟩ = s.toList.isEmpty := by
  unfold eqB
  rw [ByteArray.toList_eq ⟨#[]⟩]
  cases s.toList <;> rfl
theorem portB_80 : portB 80 = ⟨#[]⟩ := rfl
theorem portB_no {n : Int} (h : (n == 80) = false) : portB n = (⟨#[58]⟩ : ByteArray) ++ decT n := by
  unfold portB; rw [if_neg (beq_eq_false_iff_ne.1 h)]
set_option maxHeartbeats 1000000 in
theorem portText_any (ho pa qu : ByteArray) (po : Int) (hq : Bool) (w : World) (htab : Tab10 w) :
    Calls Tryz.prog 58 #[.agg #[.string ho, .int .i64 po, .string pa, .string qu, .bool hq]] w fun e w' => e = .returned (.string (portB po)) ∧ Below w.heap.size w w' := by
  have HB := hideB2 (below_a1 w (.cells #[.string ho, .int .i64 po, .string pa, .string qu, .bool hq] 23))
  have HT := hideB2 (tab_later htab HB.out)
  clear htab
  cases h80 : (po == 80)
  · rw [portB_no h80]
    have HD := hideB2 (fun W h => DecText_all po W h)
    have hdz := decT_size po
    generalize decT po = d at *
    go_enter Tryz.func58, Tryz.ntmps58
    go_wp2_with (go_at_call 87; refine (HD.out _ HT.out).mono ?_; rintro e w1 ⟨rfl, hb1⟩)
    go_ret
    exact ⟨rfl, below_then HB.out hb1⟩
  · obtain rfl := beq_iff_eq.1 h80
    go_enter Tryz.func58, Tryz.ntmps58
    go_wp2
    go_ret
    exact ⟨rfl, HB.out⟩
set_option maxHeartbeats 1000000 in
theorem queryText_any (ho pa qu : ByteArray) (po : Int) (hq : Bool) (w : World) (hqu : qu.size ≤ 1048576) :
    Calls Tryz.prog 59 #[.agg #[.string ho, .int .i64 po, .string pa, .string qu, .bool hq]] w fun e w' => e = .returned (.string (qryB qu hq)) ∧ Below w.heap.size w w' := by
  have HB := hideB2 (below_a1 w (.cells #[.string ho, .int .i64 po, .string pa, .string qu, .bool hq] 23))
  cases hq
  · go_enter Tryz.func59, Tryz.ntmps59
    go_wp2
    go_ret
    exact ⟨rfl, HB.out⟩
  · go_enter Tryz.func59, Tryz.ntmps59
    go_wp2
    go_ret
    exact ⟨rfl, HB.out⟩
set_option maxRecDepth 100000 in
set_option maxHeartbeats 2000000 in
theorem urlText_any (ho pa qu : ByteArray) (po : Int) (hq : Bool) (w : World) (htab : Tab10 w) (hho : ho.size ≤ 1048576) (hpa : pa.size ≤ 1048576) (hqu : qu.size ≤ 1048576) :
    Calls Tryz.prog 57 #[.agg #[.string ho, .int .i64 po, .string pa, .string qu, .bool hq]] w fun e w' => e = .returned (.string (utxt ho pa qu po hq)) ∧ Below w.heap.size w w' := by
  have HB := hideB2 (below_a1 w (.cells #[.string ho, .int .i64 po, .string pa, .string qu, .bool hq] 23))
  have A1 := Blk.new w #[.string ho, .int .i64 po, .string pa, .string qu, .bool hq] 23
  have HT := hideB2 (tab_later htab HB.out)
  have hz1 := portB_size po
  have hz2 := qryB_size qu hq
  have HP := hideB2 (fun W h => portText_any ho pa qu po hq W h)
  have HQ := hideB2 (fun W => queryText_any ho pa qu po hq W hqu)
  have HE := hideB2 (show utxt ho pa qu po hq = (((⟨#[104, 116, 116, 112, 58, 47, 47]⟩ ++ ho) ++ portB po) ++ pa) ++ qryB qu hq from rfl)
  clear htab
  generalize utxt ho pa qu po hq = R at *
  generalize portB po = P at *
  generalize qryB qu hq = Q at *
  have hs0 : (⟨#[104, 116, 116, 112, 58, 47, 47]⟩ : ByteArray).size = 7 := rfl
  have hs1 : ((⟨#[104, 116, 116, 112, 58, 47, 47]⟩ : ByteArray) ++ ho).size ≤ 1048583 := by rw [ByteArray.size_append]; omega
  have hs2 : (((⟨#[104, 116, 116, 112, 58, 47, 47]⟩ : ByteArray) ++ ho) ++ P).size ≤ 1048600 := by rw [ByteArray.size_append]; omega
  have hs3 : ((((⟨#[104, 116, 116, 112, 58, 47, 47]⟩ : ByteArray) ++ ho) ++ P) ++ pa).size ≤ 2097180 := by rw [ByteArray.size_append]; omega
  go_enter Tryz.func57, Tryz.ntmps57
  go_wp2
  generalize hW : w.alloc (.cells #[.string ho, .int .i64 po, .string pa, .string qu, .bool hq] 23) = W at *
  clear hW
  obtain ⟨p0, p1, p2, p3, p4⟩ := A1.u5
  have z0 := fun V => grw_some p0 V
  have z1 := fun V => grw_some p1 V
  have z2 := fun V => grw_some p2 V
  have z3 := fun V => grw_some p3 V
  have z4 := fun V => grw_some p4 V
  have HTV := hideB2 (fun V : Gr W => tab_later HT.out (grw_below W V))
  clear p0 p1 p2 p3 p4 A1
  refine wp_region_grow ?_ ?_ ?_
  · kernel_rfl
  · kernel_rfl
  · intro hne
    repeat (go_big_quiet_step ((first | (go_at_call 58; exact grow_call (HP.out _ (HTV.out _))) | (go_at_call 59; exact grow_call (HQ.out _)))))
    refine wpQuiet_nil ?_
    rintro _ ⟨V, rfl⟩
    have HBV := hideB2 (below_then HB.out (grw_below W V))
    generalize grw W V = w3 at *
    go_wp2
    go_ret
    exact ⟨ret_str HE.out, HBV.out⟩
set_option maxHeartbeats 1000000 in
theorem queryOk_any (ho pa qu : ByteArray) (po : Int) (hq : Bool) (w : World) :
    Calls Tryz.prog 69 #[.agg #[.string ho, .int .i64 po, .string pa, .string qu, .bool hq]] w fun e w' => e = .returned (.bool (queQ qu hq)) ∧ Below w.heap.size w w' := by
  have HB := hideB2 (below_a1 w (.cells #[.string ho, .int .i64 po, .string pa, .string qu, .bool hq] 23))
  have HC := hideB2 (fun W => Any.strings_Contains_one Tryz.lays144 qu 35 W)
  have HI := hideB2 (show (!decide (0 ≤ idxS 35 qu)) = decide (idxS 35 qu < 0) by
    by_cases h : 0 ≤ idxS 35 qu
    · rw [decide_eq_true h, decide_eq_false (by omega)]; rfl
    · rw [decide_eq_false h, decide_eq_true (by omega)]; rfl)
  change Hid (∀ W, Calls _ _ _ W fun e w' => e = .returned (.bool (decide (0 ≤ idxS 35 qu))) ∧ w' = W) at HC
  unfold queQ
  generalize decide (0 ≤ idxS 35 qu) = x at *
  generalize decide (idxS 35 qu < 0) = y at *
  cases hq
  · cases he : eqB qu ⟨#[]⟩
    · rw [eqB_nilU] at he
      go_enter Tryz.func69, Tryz.ntmps69
      go_wp2
      go_ret
      exact ⟨rfl, HB.out⟩
    · rw [eqB_nilU] at he
      go_enter Tryz.func69, Tryz.ntmps69
      go_wp2_with (go_at_call 30; refine (HC.out _).mono ?_; rintro e w1 ⟨rfl, rfl⟩)
      go_ret
      exact ⟨ret_bool HI.out.symm, HB.out⟩
  · rw [Bool.true_or, Bool.true_and]
    go_enter Tryz.func69, Tryz.ntmps69
    go_wp2_with (go_at_call 30; refine (HC.out _).mono ?_; rintro e w1 ⟨rfl, rfl⟩)
    go_ret
    exact ⟨ret_bool HI.out.symm, HB.out⟩
set_option maxRecDepth 100000 in
set_option maxHeartbeats 8000000 in
theorem UrlOk_any (ho pa qu : ByteArray) (po : Int) (hq : Bool) (w : World) (htab : Tab10 w) (hho : ho.size ≤ 1048576) (hpa : pa.size ≤ 1048576) (hqu : qu.size ≤ 1048576) :
    Calls Tryz.prog 35 #[.agg #[.string ho, .int .i64 po, .string pa, .string qu, .bool hq]] w fun e w' => e = .returned (.bool (urlQ ho pa qu po hq)) ∧ Below w.heap.size w w' := by
  have HB := hideB2 (below_a1 w (.cells #[.string ho, .int .i64 po, .string pa, .string qu, .bool hq] 23))
  have A1 := hideB2 (Blk.new w #[.string ho, .int .i64 po, .string pa, .string qu, .bool hq] 23)
  have HT := hideB2 (tab_later htab HB.out)
  have HH := hideB2 (fun W => hostOk_any ho W (by unfold maxLen; omega))
  have HW := hideB2 (fun W => within_any po 1 65535 W)
  have HCP := hideB2 (fun W => CleanPath_any pa W (by unfold maxLen; omega))
  have HQO := hideB2 (fun W => queryOk_any ho pa qu po hq W)
  have HUT := hideB2 (fun W h => urlText_any ho pa qu po hq W h hho hpa hqu)
  have hz1 := portB_size po
  have hz2 := qryB_size qu hq
  have hz3 := utxt_size ho pa qu po hq
  have HTO := hideB2 (fun W => targetOk_any (utxt ho pa qu po hq) W (by unfold maxLen; omega))
  have HE := hideB2 (show urlQ ho pa qu po hq = (hostQ ho && withinB po 1 65535 && !eqB pa ⟨#[]⟩ && eqB (clnB pa) pa && queQ qu hq && targQ (utxt ho pa qu po hq)) from rfl)
  have HCE := hideB2 (show ((clnB pa).toList == pa.toList) = eqB (clnB pa) pa from rfl)
  clear htab hz1 hz2 hz3
  generalize urlQ ho pa qu po hq = R at *
  generalize utxt ho pa qu po hq = T at *
  generalize targQ T = b6 at *
  generalize queQ qu hq = b5 at *
  generalize hostQ ho = b1 at *
  generalize withinB po 1 65535 = b2 at *
  generalize eqB (clnB pa) pa = b4 at *
  generalize clnB pa = cp at *
  have hcc := HCE.out
  clear HCE
  cases h3 : eqB pa ⟨#[]⟩
  · rw [h3] at HE
    rw [eqB_nilU] at h3
    cases b1
    · rw [show (false && b2 && !false && b4 && b5 && b6) = false by simp] at HE
      go_enter Tryz.func35, Tryz.ntmps35
      go_wp2
      generalize hW0 : w.alloc (.cells #[.string ho, .int .i64 po, .string pa, .string qu, .bool hq] 23) = W at *
      clear hW0
      obtain ⟨p0, p1, p2, p3, p4⟩ := A1.out.u5
      have z0 := fun V => grw_some p0 V
      have z1 := fun V => grw_some p1 V
      have z2 := fun V => grw_some p2 V
      have z3 := fun V => grw_some p3 V
      have z4 := fun V => grw_some p4 V
      have HTV := hideB2 (fun V : Gr W => tab_later HT.out (grw_below W V))
      clear p0 p1 p2 p3 p4 A1
      refine wp_region_grow ?_ ?_ ?_
      · kernel_rfl
      · kernel_rfl
      · intro hne0
        repeat (go_big_quiet_step ((first | (go_at_call 68; exact grow_call (HH.out _)) | (go_at_call 63; exact grow_same (HW.out _)) | (go_at_call 14; exact grow_call (HCP.out _)) | (go_at_call 69; exact grow_call (HQO.out _)) | (go_at_call 57; exact grow_call (HUT.out _ (HTV.out _))) | (go_at_call 29; exact grow_same (HTO.out _)))))
        refine wpQuiet_nil ?_
        rintro _ ⟨V, rfl⟩
        have HBV := hideB2 (below_then HB.out (grw_below W V))
        generalize grw W V = w3 at *
        go_wp2
        go_ret
        exact ⟨ret_bool HE.out, HBV.out⟩
    · cases b2
      · rw [show (true && false && !false && b4 && b5 && b6) = false by simp] at HE
        go_enter Tryz.func35, Tryz.ntmps35
        go_wp2
        generalize hW0 : w.alloc (.cells #[.string ho, .int .i64 po, .string pa, .string qu, .bool hq] 23) = W at *
        clear hW0
        obtain ⟨p0, p1, p2, p3, p4⟩ := A1.out.u5
        have z0 := fun V => grw_some p0 V
        have z1 := fun V => grw_some p1 V
        have z2 := fun V => grw_some p2 V
        have z3 := fun V => grw_some p3 V
        have z4 := fun V => grw_some p4 V
        have HTV := hideB2 (fun V : Gr W => tab_later HT.out (grw_below W V))
        clear p0 p1 p2 p3 p4 A1
        refine wp_region_grow ?_ ?_ ?_
        · kernel_rfl
        · kernel_rfl
        · intro hne0
          repeat (go_big_quiet_step ((first | (go_at_call 68; exact grow_call (HH.out _)) | (go_at_call 63; exact grow_same (HW.out _)) | (go_at_call 14; exact grow_call (HCP.out _)) | (go_at_call 69; exact grow_call (HQO.out _)) | (go_at_call 57; exact grow_call (HUT.out _ (HTV.out _))) | (go_at_call 29; exact grow_same (HTO.out _)))))
          refine wpQuiet_nil ?_
          rintro _ ⟨V, rfl⟩
          have HBV := hideB2 (below_then HB.out (grw_below W V))
          generalize grw W V = w3 at *
          go_wp2
          go_ret
          exact ⟨ret_bool HE.out, HBV.out⟩
      · cases b4
        · rw [show (true && true && !false && false && b5 && b6) = false by simp] at HE
          go_enter Tryz.func35, Tryz.ntmps35
          go_wp2
          generalize hW0 : w.alloc (.cells #[.string ho, .int .i64 po, .string pa, .string qu, .bool hq] 23) = W at *
          clear hW0
          obtain ⟨p0, p1, p2, p3, p4⟩ := A1.out.u5
          have z0 := fun V => grw_some p0 V
          have z1 := fun V => grw_some p1 V
          have z2 := fun V => grw_some p2 V
          have z3 := fun V => grw_some p3 V
          have z4 := fun V => grw_some p4 V
          have HTV := hideB2 (fun V : Gr W => tab_later HT.out (grw_below W V))
          clear p0 p1 p2 p3 p4 A1
          refine wp_region_grow ?_ ?_ ?_
          · kernel_rfl
          · kernel_rfl
          · intro hne0
            repeat (go_big_quiet_step ((first | (go_at_call 68; exact grow_call (HH.out _)) | (go_at_call 63; exact grow_same (HW.out _)) | (go_at_call 14; exact grow_call (HCP.out _)) | (go_at_call 69; exact grow_call (HQO.out _)) | (go_at_call 57; exact grow_call (HUT.out _ (HTV.out _))) | (go_at_call 29; exact grow_same (HTO.out _)))))
            refine wpQuiet_nil ?_
            rintro _ ⟨V, rfl⟩
            have HBV := hideB2 (below_then HB.out (grw_below W V))
            generalize grw W V = w3 at *
            go_wp2
            go_ret
            exact ⟨ret_bool HE.out, HBV.out⟩
        · cases b5
          · rw [show (true && true && !false && true && false && b6) = false by simp] at HE
            go_enter Tryz.func35, Tryz.ntmps35
            go_wp2
            generalize hW0 : w.alloc (.cells #[.string ho, .int .i64 po, .string pa, .string qu, .bool hq] 23) = W at *
            clear hW0
            obtain ⟨p0, p1, p2, p3, p4⟩ := A1.out.u5
            have z0 := fun V => grw_some p0 V
            have z1 := fun V => grw_some p1 V
            have z2 := fun V => grw_some p2 V
            have z3 := fun V => grw_some p3 V
            have z4 := fun V => grw_some p4 V
            have HTV := hideB2 (fun V : Gr W => tab_later HT.out (grw_below W V))
            clear p0 p1 p2 p3 p4 A1
            refine wp_region_grow ?_ ?_ ?_
            · kernel_rfl
            · kernel_rfl
            · intro hne0
              repeat (go_big_quiet_step ((first | (go_at_call 68; exact grow_call (HH.out _)) | (go_at_call 63; exact grow_same (HW.out _)) | (go_at_call 14; exact grow_call (HCP.out _)) | (go_at_call 69; exact grow_call (HQO.out _)) | (go_at_call 57; exact grow_call (HUT.out _ (HTV.out _))) | (go_at_call 29; exact grow_same (HTO.out _)))))
              refine wpQuiet_nil ?_
              rintro _ ⟨V, rfl⟩
              have HBV := hideB2 (below_then HB.out (grw_below W V))
              generalize grw W V = w3 at *
              go_wp2
              go_ret
              exact ⟨ret_bool HE.out, HBV.out⟩
          · rw [show (true && true && !false && true && true && b6) = b6 by simp] at HE
            go_enter Tryz.func35, Tryz.ntmps35
            go_wp2
            generalize hW0 : w.alloc (.cells #[.string ho, .int .i64 po, .string pa, .string qu, .bool hq] 23) = W at *
            clear hW0
            obtain ⟨p0, p1, p2, p3, p4⟩ := A1.out.u5
            have z0 := fun V => grw_some p0 V
            have z1 := fun V => grw_some p1 V
            have z2 := fun V => grw_some p2 V
            have z3 := fun V => grw_some p3 V
            have z4 := fun V => grw_some p4 V
            have HTV := hideB2 (fun V : Gr W => tab_later HT.out (grw_below W V))
            clear p0 p1 p2 p3 p4 A1
            refine wp_region_grow ?_ ?_ ?_
            · kernel_rfl
            · kernel_rfl
            · intro hne0
              repeat (go_big_quiet_step ((first | (go_at_call 68; exact grow_call (HH.out _)) | (go_at_call 63; exact grow_same (HW.out _)) | (go_at_call 14; exact grow_call (HCP.out _)) | (go_at_call 69; exact grow_call (HQO.out _)) | (go_at_call 57; exact grow_call (HUT.out _ (HTV.out _))) | (go_at_call 29; exact grow_same (HTO.out _)))))
              refine wpQuiet_nil ?_
              rintro _ ⟨V, rfl⟩
              have HBV := hideB2 (below_then HB.out (grw_below W V))
              generalize grw W V = w3 at *
              go_wp2
              go_ret
              exact ⟨ret_bool HE.out, HBV.out⟩
  · rw [h3] at HE
    rw [eqB_nilU] at h3
    cases b1
    · rw [show (false && b2 && !true && b4 && b5 && b6) = false by simp] at HE
      go_enter Tryz.func35, Tryz.ntmps35
      go_wp2
      generalize hW0 : w.alloc (.cells #[.string ho, .int .i64 po, .string pa, .string qu, .bool hq] 23) = W at *
      clear hW0
      obtain ⟨p0, p1, p2, p3, p4⟩ := A1.out.u5
      have z0 := fun V => grw_some p0 V
      have z1 := fun V => grw_some p1 V
      have z2 := fun V => grw_some p2 V
      have z3 := fun V => grw_some p3 V
      have z4 := fun V => grw_some p4 V
      have HTV := hideB2 (fun V : Gr W => tab_later HT.out (grw_below W V))
      clear p0 p1 p2 p3 p4 A1
      refine wp_region_grow ?_ ?_ ?_
      · kernel_rfl
      · kernel_rfl
      · intro hne0
        repeat (go_big_quiet_step ((first | (go_at_call 68; exact grow_call (HH.out _)) | (go_at_call 63; exact grow_same (HW.out _)) | (go_at_call 14; exact grow_call (HCP.out _)) | (go_at_call 69; exact grow_call (HQO.out _)) | (go_at_call 57; exact grow_call (HUT.out _ (HTV.out _))) | (go_at_call 29; exact grow_same (HTO.out _)))))
        refine wpQuiet_nil ?_
        rintro _ ⟨V, rfl⟩
        have HBV := hideB2 (below_then HB.out (grw_below W V))
        generalize grw W V = w3 at *
        go_wp2
        go_ret
        exact ⟨ret_bool HE.out, HBV.out⟩
    · cases b2
      · rw [show (true && false && !true && b4 && b5 && b6) = false by simp] at HE
        go_enter Tryz.func35, Tryz.ntmps35
        go_wp2
        generalize hW0 : w.alloc (.cells #[.string ho, .int .i64 po, .string pa, .string qu, .bool hq] 23) = W at *
        clear hW0
        obtain ⟨p0, p1, p2, p3, p4⟩ := A1.out.u5
        have z0 := fun V => grw_some p0 V
        have z1 := fun V => grw_some p1 V
        have z2 := fun V => grw_some p2 V
        have z3 := fun V => grw_some p3 V
        have z4 := fun V => grw_some p4 V
        have HTV := hideB2 (fun V : Gr W => tab_later HT.out (grw_below W V))
        clear p0 p1 p2 p3 p4 A1
        refine wp_region_grow ?_ ?_ ?_
        · kernel_rfl
        · kernel_rfl
        · intro hne0
          repeat (go_big_quiet_step ((first | (go_at_call 68; exact grow_call (HH.out _)) | (go_at_call 63; exact grow_same (HW.out _)) | (go_at_call 14; exact grow_call (HCP.out _)) | (go_at_call 69; exact grow_call (HQO.out _)) | (go_at_call 57; exact grow_call (HUT.out _ (HTV.out _))) | (go_at_call 29; exact grow_same (HTO.out _)))))
          refine wpQuiet_nil ?_
          rintro _ ⟨V, rfl⟩
          have HBV := hideB2 (below_then HB.out (grw_below W V))
          generalize grw W V = w3 at *
          go_wp2
          go_ret
          exact ⟨ret_bool HE.out, HBV.out⟩
      · rw [show (true && true && !true && b4 && b5 && b6) = false by simp] at HE
        go_enter Tryz.func35, Tryz.ntmps35
        go_wp2
        generalize hW0 : w.alloc (.cells #[.string ho, .int .i64 po, .string pa, .string qu, .bool hq] 23) = W at *
        clear hW0
        obtain ⟨p0, p1, p2, p3, p4⟩ := A1.out.u5
        have z0 := fun V => grw_some p0 V
        have z1 := fun V => grw_some p1 V
        have z2 := fun V => grw_some p2 V
        have z3 := fun V => grw_some p3 V
        have z4 := fun V => grw_some p4 V
        have HTV := hideB2 (fun V : Gr W => tab_later HT.out (grw_below W V))
        clear p0 p1 p2 p3 p4 A1
        refine wp_region_grow ?_ ?_ ?_
        · kernel_rfl
        · kernel_rfl
        · intro hne0
          repeat (go_big_quiet_step ((first | (go_at_call 68; exact grow_call (HH.out _)) | (go_at_call 63; exact grow_same (HW.out _)) | (go_at_call 14; exact grow_call (HCP.out _)) | (go_at_call 69; exact grow_call (HQO.out _)) | (go_at_call 57; exact grow_call (HUT.out _ (HTV.out _))) | (go_at_call 29; exact grow_same (HTO.out _)))))
          refine wpQuiet_nil ?_
          rintro _ ⟨V, rfl⟩
          have HBV := hideB2 (below_then HB.out (grw_below W V))
          generalize grw W V = w3 at *
          go_wp2
          go_ret
          exact ⟨ret_bool HE.out, HBV.out⟩
def textB (ho pa qu : ByteArray) (po : Int) (hq : Bool) : ByteArray := if urlQ ho pa qu po hq = true then utxt ho pa qu po hq else ⟨#[]⟩
set_option maxHeartbeats 2000000 in
theorem UrlText_any (ho pa qu : ByteArray) (po : Int) (hq : Bool) (w : World) (htab : Tab10 w) (hho : ho.size ≤ 1048576) (hpa : pa.size ≤ 1048576) (hqu : qu.size ≤ 1048576) :
    Calls Tryz.prog 23 #[.agg #[.string ho, .int .i64 po, .string pa, .string qu, .bool hq]] w fun e w' => e = .returned (.string (textB ho pa qu po hq)) ∧ Below w.heap.size w w' := by
  have HB := hideB2 (below_a1 w (.cells #[.string ho, .int .i64 po, .string pa, .string qu, .bool hq] 23))
  have A1 := hideB2 (Blk.new w #[.string ho, .int .i64 po, .string pa, .string qu, .bool hq] 23)
  have HT := hideB2 (tab_later htab HB.out)
  have HU := hideB2 (fun W h => UrlOk_any ho pa qu po hq W h hho hpa hqu)
  have HX := hideB2 (fun W h => urlText_any ho pa qu po hq W h hho hpa hqu)
  unfold textB
  clear htab
  generalize utxt ho pa qu po hq = T at *
  cases hh : urlQ ho pa qu po hq
  · rw [hh] at HU
    rw [if_neg (by simp)]
    clear hh
    go_enter Tryz.func23, Tryz.ntmps23
    go_wp2_with (go_at_call 35; refine (HU.out _ HT.out).mono ?_; rintro e w1 ⟨rfl, hb1⟩)
    go_ret
    exact ⟨rfl, below_then HB.out hb1⟩
  · rw [hh] at HU
    rw [if_pos rfl]
    clear hh
    go_enter Tryz.func23, Tryz.ntmps23
    go_wp2_with (first
      | (go_at_call 35; refine (HU.out _ HT.out).mono ?_; rintro e w1 ⟨rfl, hb1⟩; obtain ⟨p0, p1, p2, p3, p4⟩ := (A1.out.later hb1).u5)
      | (go_at_call 57; refine (HX.out _ (tab_later HT.out hb1)).mono ?_; rintro e w2 ⟨rfl, hb2⟩))
    go_ret
    exact ⟨rfl, below_then (below_then HB.out hb1) hb2⟩
end Go.Proofs.YtefhpjipcdmbaabGreatDoor
