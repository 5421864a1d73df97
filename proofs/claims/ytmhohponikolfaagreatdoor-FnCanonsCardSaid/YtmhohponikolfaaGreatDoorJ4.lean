/-
  The class of the worlds that have grown out of one: for regions that draw their order and whose callees make memory of their own. · Chapter 7: an address's text, and is it one; the program's side. · Chapter 7: hosts; the specification's side. · Chapter 7: an address's text, and is it one; the specification's side. · Chapter 7: a host's pieces turned, and the form of the index; both sides. · Chapter 7: the form of the index; both sides.
-/
import Derived.Test.YtmhohponikolfaaGreatDoorJ1
import Derived.Test.YtmhohponikolfaaGreatDoorJ2
import Derived.Test.YtmhohponikolfaaGreatDoorJ3
import Derived.Lib.QuietBelow
namespace Go.Proofs.YtmhohponikolfaaGreatDoor
set_option linter.unusedVariables false
set_option linter.unusedSimpArgs false
open Go.RowKit
structure Gr (W : World) where
  w : World
  h : Below W.heap.size W w
def grw (W : World) (V : Gr W) : World := V.w
theorem grw_below (W : World) (V : Gr W) : Below W.heap.size W (grw W V) := V.h
theorem grw_cell {W : World} {b : Nat} (o : Nat) (h : b < W.heap.size) (V : Gr W) : (grw W V).cell? ⟨b, o, none⟩ = W.cell? ⟨b, o, none⟩ := (grw_below W V).cell (p := ⟨b, o, none⟩) h
theorem grw_some {W : World} {b o : Nat} {v : Value} (h : W.cell? ⟨b, o, none⟩ = some v) (V : Gr W) : (grw W V).cell? ⟨b, o, none⟩ = some v := by
  rw [grw_cell o (World.block_lt_of_cell? _ _ h) V]; exact h
theorem grow_drawn (w : World) : ∃ V : Gr w, { w with drawn := w.drawn + 1 } = grw w V := ⟨⟨w.drew, (Below.refl _ w).drew⟩, rfl⟩
theorem wp_region_grow {P : Program} {id : Nat} {Q : Exit → Act → World → Prop} {a : Act} {w : World} {l : List Oper} (hm : P.follows .mixedOrders = true) (hB : Region.lexB .any l.toArray = true)
    (h : Nonempty (Gr w) → wpQuiet P l.toArray (fun w' => ∃ V, w' = grw w V) (fun a' => ∀ w', (∃ V, w' = grw w V) → Q .normal a' w') l a) : (Code.region id l.toArray true).wp P Q a w :=
  wp_region_quiet (C := fun w' => ∃ V, w' = grw w V) hm hB (grow_drawn w) (by simpa using h ⟨⟨w, Below.refl _ _⟩⟩)
theorem wp_region_grow_tail {P : Program} {id : Nat} {Q : Exit → Act → World → Prop} {a : Act} {w : World} {l : List Oper} (n : Nat) (hm : P.follows .mixedOrders = true) (hB : Region.lexTailB .any l.toArray n = true)
    (h : Nonempty (Gr w) → wpQuiet P l.toArray (fun w' => ∃ V, w' = grw w V) (fun a' => ∀ w', (∃ V, w' = grw w V) → wpList P l.toArray Q (l.drop n) a' w') (l.take n) a) : (Code.region id l.toArray true).wp P Q a w :=
  wp_region_quiet_tail (fun w' => ∃ V, w' = grw w V) n hm hB (grow_drawn w) (h ⟨⟨w, Below.refl _ _⟩⟩)
theorem grow_call {P : Program} {f : FuncId} {args : Array Value} {W : World} {V : Gr W} {v : Value}
    (h : Calls P f args (grw W V) fun e w' => e = .returned v ∧ Below (grw W V).heap.size (grw W V) w') : Calls P f args (grw W V) fun e w'' => e = .returned v ∧ ∃ V', w'' = grw W V' :=
  h.mono fun _ w'' ⟨he, hb⟩ => ⟨he, ⟨w'', below_then (grw_below W V) hb⟩, rfl⟩
theorem grow_same {P : Program} {f : FuncId} {args : Array Value} {W : World} {V : Gr W} {v : Value}
    (h : Calls P f args (grw W V) fun e w' => e = .returned v ∧ w' = grw W V) : Calls P f args (grw W V) fun e w'' => e = .returned v ∧ ∃ V', w'' = grw W V' :=
  h.mono fun _ w'' ⟨he, hb⟩ => ⟨he, V, hb⟩
theorem grow_drew {P : Program} {f : FuncId} {args : Array Value} {W : World} {V : Gr W} {v : Value}
    (h : Calls P f args (grw W V) fun e w' => e = .returned v ∧ ∃ m, w' = (grw W V).drewN m) : Calls P f args (grw W V) fun e w'' => e = .returned v ∧ ∃ V', w'' = grw W V' :=
  h.mono fun _ w'' ⟨he, m, hb⟩ => ⟨he, ⟨w'', by rw [hb]; exact (grw_below W V).trans ⟨rfl, rfl, rfl, Nat.le_refl _, fun _ _ => rfl⟩⟩, rfl⟩
end Go.Proofs.YtmhohponikolfaaGreatDoor
namespace Go.Proofs.YtmhohponikolfaaGreatDoor
set_option linter.unusedVariables false
set_option linter.unusedSimpArgs false
open Go.RowKit
theorem Blk.u5 {w : World} {g : Nat} {a b c d e : Value} {t : TypeId} (H : Blk w g #[a, b, c, d, e] t) : w.cell? ⟨g, 0, none⟩ = some a ∧ w.cell? ⟨g, 1, none⟩ = some b ∧ w.cell? ⟨g, 2, none⟩ = some c ∧ w.cell? ⟨g, 3, none⟩ = some d ∧ w.cell? ⟨g, 4, none⟩ = some e :=
  ⟨H.cell 0, H.cell 1, H.cell 2, H.cell 3, H.cell 4⟩
theorem eqB_nilU {s : ByteArray} : eqB s ⟨#[]⟩ = s.toList.isEmpty := by
  unfold eqB
  rw [ByteArray.toList_eq ⟨#[]⟩]
  cases s.toList <;> rfl
theorem portB_80 : portB 80 = ⟨#[]⟩ := rfl
theorem portB_no {n : Int} (h : (n == 80) = false) : portB n = (⟨#[58]⟩ : ByteArray) ++ decT n := by
  unfold portB; rw [if_neg (beq_eq_false_iff_ne.1 h)]
set_option maxHeartbeats 1000000 in
theorem portText_any (ho pa qu : ByteArray) (po : Int) (hq : Bool) (w : World) (htab : Tab10 w) :
    Calls Tryz.prog 84 #[.agg #[.string ho, .int .i64 po, .string pa, .string qu, .bool hq]] w fun e w' => e = .returned (.string (portB po)) ∧ Below w.heap.size w w' := by
  have HB := hideB2 (below_a1 w (.cells #[.string ho, .int .i64 po, .string pa, .string qu, .bool hq] 38))
  have HT := hideB2 (tab_later htab HB.out)
  clear htab
  cases h80 : (po == 80)
  · rw [portB_no h80]
    have HD := hideB2 (fun W h => DecText_all po W h)
    have hdz := decT_size po
    generalize decT po = d at *
    go_enter Tryz.func84, Tryz.ntmps84
    go_wp2_with (go_at_call 124; refine (HD.out _ HT.out).mono ?_; rintro e w1 ⟨rfl, hb1⟩)
    go_ret
    exact ⟨rfl, below_then HB.out hb1⟩
  · obtain rfl := beq_iff_eq.1 h80
    go_enter Tryz.func84, Tryz.ntmps84
    go_wp2
    go_ret
    exact ⟨rfl, HB.out⟩
set_option maxHeartbeats 1000000 in
theorem queryText_any (ho pa qu : ByteArray) (po : Int) (hq : Bool) (w : World) (hqu : qu.size ≤ 1048576) :
    Calls Tryz.prog 85 #[.agg #[.string ho, .int .i64 po, .string pa, .string qu, .bool hq]] w fun e w' => e = .returned (.string (qryB qu hq)) ∧ Below w.heap.size w w' := by
  have HB := hideB2 (below_a1 w (.cells #[.string ho, .int .i64 po, .string pa, .string qu, .bool hq] 38))
  cases hq
  · go_enter Tryz.func85, Tryz.ntmps85
    go_wp2
    go_ret
    exact ⟨rfl, HB.out⟩
  · go_enter Tryz.func85, Tryz.ntmps85
    go_wp2
    go_ret
    exact ⟨rfl, HB.out⟩
set_option maxRecDepth 100000 in
set_option maxHeartbeats 2000000 in
theorem urlText_any (ho pa qu : ByteArray) (po : Int) (hq : Bool) (w : World) (htab : Tab10 w) (hho : ho.size ≤ 1048576) (hpa : pa.size ≤ 1048576) (hqu : qu.size ≤ 1048576) :
    Calls Tryz.prog 81 #[.agg #[.string ho, .int .i64 po, .string pa, .string qu, .bool hq]] w fun e w' => e = .returned (.string (utxt ho pa qu po hq)) ∧ Below w.heap.size w w' := by
  have HB := hideB2 (below_a1 w (.cells #[.string ho, .int .i64 po, .string pa, .string qu, .bool hq] 38))
  have A1 := Blk.new w #[.string ho, .int .i64 po, .string pa, .string qu, .bool hq] 38
  have HT := hideB2 (tab_later htab HB.out)
  have hz1 := portB_size po
  have hz2 := qryB_size qu hq
  have HP := hideB2 (fun W h => portText_any ho pa qu po hq W h)
  have HQ := hideB2 (fun W => queryText_any ho pa qu po hq W hqu)
  have HE := hideB2 (show utxt ho pa qu po hq = (((⟨#[104, 116, 116, 112, 58, 47, 47]⟩ ++ ho) ++ portB po) ++ pa) ++ qryB qu hq from rfl)
  clear htab
  generalize utxt ho pa qu po hq = R at *
  generalize portB po = P at *
  generalize qryB qu hq = Q at *
  have hs0 : (⟨#[104, 116, 116, 112, 58, 47, 47]⟩ : ByteArray).size = 7 := rfl
  have hs1 : ((⟨#[104, 116, 116, 112, 58, 47, 47]⟩ : ByteArray) ++ ho).size ≤ 1048583 := by rw [ByteArray.size_append]; omega
  have hs2 : (((⟨#[104, 116, 116, 112, 58, 47, 47]⟩ : ByteArray) ++ ho) ++ P).size ≤ 1048600 := by rw [ByteArray.size_append]; omega
  have hs3 : ((((⟨#[104, 116, 116, 112, 58, 47, 47]⟩ : ByteArray) ++ ho) ++ P) ++ pa).size ≤ 2097180 := by rw [ByteArray.size_append]; omega
  go_enter Tryz.func81, Tryz.ntmps81
  go_wp2
  generalize hW : w.alloc (.cells #[.string ho, .int .i64 po, .string pa, .string qu, .bool hq] 38) = W at *
  clear hW
  obtain ⟨p0, p1, p2, p3, p4⟩ := A1.u5
  have z0 := fun V => grw_some p0 V
  have z1 := fun V => grw_some p1 V
  have z2 := fun V => grw_some p2 V
  have z3 := fun V => grw_some p3 V
  have z4 := fun V => grw_some p4 V
  have HTV := hideB2 (fun V : Gr W => tab_later HT.out (grw_below W V))
  clear p0 p1 p2 p3 p4 A1
  refine wp_region_grow ?_ ?_ ?_
  · kernel_rfl
  · kernel_rfl
  · intro hne
    repeat (go_big_quiet_step ((first | (go_at_call 84; exact grow_call (HP.out _ (HTV.out _))) | (go_at_call 85; exact grow_call (HQ.out _)))))
    refine wpQuiet_nil ?_
    rintro _ ⟨V, rfl⟩
    have HBV := hideB2 (below_then HB.out (grw_below W V))
    generalize grw W V = w3 at *
    go_wp2
    go_ret
    exact ⟨ret_str HE.out, HBV.out⟩
set_option maxHeartbeats 1000000 in
theorem queryOk_any (ho pa qu : ByteArray) (po : Int) (hq : Bool) (w : World) :
    Calls Tryz.prog 92 #[.agg #[.string ho, .int .i64 po, .string pa, .string qu, .bool hq]] w fun e w' => e = .returned (.bool (queQ qu hq)) ∧ Below w.heap.size w w' := by
  have HB := hideB2 (below_a1 w (.cells #[.string ho, .int .i64 po, .string pa, .string qu, .bool hq] 38))
  have HC := hideB2 (fun W => Any.strings_Contains_one Tryz.lays144 qu 35 W)
  have HI := hideB2 (show (!decide (0 ≤ idxS 35 qu)) = decide (idxS 35 qu < 0) by
    by_cases h : 0 ≤ idxS 35 qu
    · rw [decide_eq_true h, decide_eq_false (by omega)]; rfl
    · rw [decide_eq_false h, decide_eq_true (by omega)]; rfl)
  change Hid (∀ W, Calls _ _ _ W fun e w' => e = .returned (.bool (decide (0 ≤ idxS 35 qu))) ∧ w' = W) at HC
  unfold queQ
  generalize decide (0 ≤ idxS 35 qu) = x at *
  generalize decide (idxS 35 qu < 0) = y at *
  cases hq
  · cases he : eqB qu ⟨#[]⟩
    · rw [eqB_nilU] at he
      go_enter Tryz.func92, Tryz.ntmps92
      go_wp2
      go_ret
      exact ⟨rfl, HB.out⟩
    · rw [eqB_nilU] at he
      go_enter Tryz.func92, Tryz.ntmps92
      go_wp2_with (go_at_call 42; refine (HC.out _).mono ?_; rintro e w1 ⟨rfl, rfl⟩)
      go_ret
      exact ⟨ret_bool HI.out.symm, HB.out⟩
  · rw [Bool.true_or, Bool.true_and]
    go_enter Tryz.func92, Tryz.ntmps92
    go_wp2_with (go_at_call 42; refine (HC.out _).mono ?_; rintro e w1 ⟨rfl, rfl⟩)
    go_ret
    exact ⟨ret_bool HI.out.symm, HB.out⟩
set_option maxRecDepth 100000 in
set_option maxHeartbeats 8000000 in
theorem UrlOk_any (ho pa qu : ByteArray) (po : Int) (hq : Bool) (w : World) (htab : Tab10 w) (hho : ho.size ≤ 1048576) (hpa : pa.size ≤ 1048576) (hqu : qu.size ≤ 1048576) :
    Calls Tryz.prog 47 #[.agg #[.string ho, .int .i64 po, .string pa, .string qu, .bool hq]] w fun e w' => e = .returned (.bool (urlQ ho pa qu po hq)) ∧ Below w.heap.size w w' := by
  have HB := hideB2 (below_a1 w (.cells #[.string ho, .int .i64 po, .string pa, .string qu, .bool hq] 38))
  have A1 := hideB2 (Blk.new w #[.string ho, .int .i64 po, .string pa, .string qu, .bool hq] 38)
  have HT := hideB2 (tab_later htab HB.out)
  have HH := hideB2 (fun W => hostOk_any ho W (by unfold maxLen; omega))
  have HW := hideB2 (fun W => within_any po 1 65535 W)
  have HCP := hideB2 (fun W => CleanPath_any pa W (by unfold maxLen; omega))
  have HQO := hideB2 (fun W => queryOk_any ho pa qu po hq W)
  have HUT := hideB2 (fun W h => urlText_any ho pa qu po hq W h hho hpa hqu)
  have hz1 := portB_size po
  have hz2 := qryB_size qu hq
  have hz3 := utxt_size ho pa qu po hq
  have HTO := hideB2 (fun W => targetOk_any (utxt ho pa qu po hq) W (by unfold maxLen; omega))
  have HE := hideB2 (show urlQ ho pa qu po hq = (hostQ ho && withinB po 1 65535 && !eqB pa ⟨#[]⟩ && eqB (clnB pa) pa && queQ qu hq && targQ (utxt ho pa qu po hq)) from rfl)
  have HCE := hideB2 (show ((clnB pa).toList == pa.toList) = eqB (clnB pa) pa from rfl)
  clear htab hz1 hz2 hz3
  generalize urlQ ho pa qu po hq = R at *
  generalize utxt ho pa qu po hq = T at *
  generalize targQ T = b6 at *
  generalize queQ qu hq = b5 at *
  generalize hostQ ho = b1 at *
  generalize withinB po 1 65535 = b2 at *
  generalize eqB (clnB pa) pa = b4 at *
  generalize clnB pa = cp at *
  have hcc := HCE.out
  clear HCE
  cases h3 : eqB pa ⟨#[]⟩
  · rw [h3] at HE
    rw [eqB_nilU] at h3
    cases b1
    · rw [show (false && b2 && !false && b4 && b5 && b6) = false by simp] at HE
      go_enter Tryz.func47, Tryz.ntmps47
      go_wp2
      generalize hW0 : w.alloc (.cells #[.string ho, .int .i64 po, .string pa, .string qu, .bool hq] 38) = W at *
      clear hW0
      obtain ⟨p0, p1, p2, p3, p4⟩ := A1.out.u5
      have z0 := fun V => grw_some p0 V
      have z1 := fun V => grw_some p1 V
      have z2 := fun V => grw_some p2 V
      have z3 := fun V => grw_some p3 V
      have z4 := fun V => grw_some p4 V
      have HTV := hideB2 (fun V : Gr W => tab_later HT.out (grw_below W V))
      clear p0 p1 p2 p3 p4 A1
      refine wp_region_grow ?_ ?_ ?_
      · kernel_rfl
      · kernel_rfl
      · intro hne0
        repeat (go_big_quiet_step ((first | (go_at_call 91; exact grow_call (HH.out _)) | (go_at_call 86; exact grow_same (HW.out _)) | (go_at_call 21; exact grow_call (HCP.out _)) | (go_at_call 92; exact grow_call (HQO.out _)) | (go_at_call 81; exact grow_call (HUT.out _ (HTV.out _))) | (go_at_call 41; exact grow_same (HTO.out _)))))
        refine wpQuiet_nil ?_
        rintro _ ⟨V, rfl⟩
        have HBV := hideB2 (below_then HB.out (grw_below W V))
        generalize grw W V = w3 at *
        go_wp2
        go_ret
        exact ⟨ret_bool HE.out, HBV.out⟩
    · cases b2
      · rw [show (true && false && !false && b4 && b5 && b6) = false by simp] at HE
        go_enter Tryz.func47, Tryz.ntmps47
        go_wp2
        generalize hW0 : w.alloc (.cells #[.string ho, .int .i64 po, .string pa, .string qu, .bool hq] 38) = W at *
        clear hW0
        obtain ⟨p0, p1, p2, p3, p4⟩ := A1.out.u5
        have z0 := fun V => grw_some p0 V
        have z1 := fun V => grw_some p1 V
        have z2 := fun V => grw_some p2 V
        have z3 := fun V => grw_some p3 V
        have z4 := fun V => grw_some p4 V
        have HTV := hideB2 (fun V : Gr W => tab_later HT.out (grw_below W V))
        clear p0 p1 p2 p3 p4 A1
        refine wp_region_grow ?_ ?_ ?_
        · kernel_rfl
        · kernel_rfl
        · intro hne0
          repeat (go_big_quiet_step ((first | (go_at_call 91; exact grow_call (HH.out _)) | (go_at_call 86; exact grow_same (HW.out _)) | (go_at_call 21; exact grow_call (HCP.out _)) | (go_at_call 92; exact grow_call (HQO.out _)) | (go_at_call 81; exact grow_call (HUT.out _ (HTV.out _))) | (go_at_call 41; exact grow_same (HTO.out _)))))
          refine wpQuiet_nil ?_
          rintro _ ⟨V, rfl⟩
          have HBV := hideB2 (below_then HB.out (grw_below W V))
          generalize grw W V = w3 at *
          go_wp2
          go_ret
          exact ⟨ret_bool HE.out, HBV.out⟩
      · cases b4
        · rw [show (true && true && !false && false && b5 && b6) = false by simp] at HE
          go_enter Tryz.func47, Tryz.ntmps47
          go_wp2
          generalize hW0 : w.alloc (.cells #[.string ho, .int .i64 po, .string pa, .string qu, .bool hq] 38) = W at *
          clear hW0
          obtain ⟨p0, p1, p2, p3, p4⟩ := A1.out.u5
          have z0 := fun V => grw_some p0 V
          have z1 := fun V => grw_some p1 V
          have z2 := fun V => grw_some p2 V
          have z3 := fun V => grw_some p3 V
          have z4 := fun V => grw_some p4 V
          have HTV := hideB2 (fun V : Gr W => tab_later HT.out (grw_below W V))
          clear p0 p1 p2 p3 p4 A1
          refine wp_region_grow ?_ ?_ ?_
          · kernel_rfl
          · kernel_rfl
          · intro hne0
            repeat (go_big_quiet_step ((first | (go_at_call 91; exact grow_call (HH.out _)) | (go_at_call 86; exact grow_same (HW.out _)) | (go_at_call 21; exact grow_call (HCP.out _)) | (go_at_call 92; exact grow_call (HQO.out _)) | (go_at_call 81; exact grow_call (HUT.out _ (HTV.out _))) | (go_at_call 41; exact grow_same (HTO.out _)))))
            refine wpQuiet_nil ?_
            rintro _ ⟨V, rfl⟩
            have HBV := hideB2 (below_then HB.out (grw_below W V))
            generalize grw W V = w3 at *
            go_wp2
            go_ret
            exact ⟨ret_bool HE.out, HBV.out⟩
        · cases b5
          · rw [show (true && true && !false && true && false && b6) = false by simp] at HE
            go_enter Tryz.func47, Tryz.ntmps47
            go_wp2
            generalize hW0 : w.alloc (.cells #[.string ho, .int .i64 po, .string pa, .string qu, .bool hq] 38) = W at *
            clear hW0
            obtain ⟨p0, p1, p2, p3, p4⟩ := A1.out.u5
            have z0 := fun V => grw_some p0 V
            have z1 := fun V => grw_some p1 V
            have z2 := fun V => grw_some p2 V
            have z3 := fun V => grw_some p3 V
            have z4 := fun V => grw_some p4 V
            have HTV := hideB2 (fun V : Gr W => tab_later HT.out (grw_below W V))
            clear p0 p1 p2 p3 p4 A1
            refine wp_region_grow ?_ ?_ ?_
            · kernel_rfl
            · kernel_rfl
            · intro hne0
              repeat (go_big_quiet_step ((first | (go_at_call 91; exact grow_call (HH.out _)) | (go_at_call 86; exact grow_same (HW.out _)) | (go_at_call 21; exact grow_call (HCP.out _)) | (go_at_call 92; exact grow_call (HQO.out _)) | (go_at_call 81; exact grow_call (HUT.out _ (HTV.out _))) | (go_at_call 41; exact grow_same (HTO.out _)))))
              refine wpQuiet_nil ?_
              rintro _ ⟨V, rfl⟩
              have HBV := hideB2 (below_then HB.out (grw_below W V))
              generalize grw W V = w3 at *
              go_wp2
              go_ret
              exact ⟨ret_bool HE.out, HBV.out⟩
          · rw [show (true && true && !false && true && true && b6) = b6 by simp] at HE
            go_enter Tryz.func47, Tryz.ntmps47
            go_wp2
            generalize hW0 : w.alloc (.cells #[.string ho, .int .i64 po, .string pa, .string qu, .bool hq] 38) = W at *
            clear hW0
            obtain ⟨p0, p1, p2, p3, p4⟩ := A1.out.u5
            have z0 := fun V => grw_some p0 V
            have z1 := fun V => grw_some p1 V
            have z2 := fun V => grw_some p2 V
            have z3 := fun V => grw_some p3 V
            have z4 := fun V => grw_some p4 V
            have HTV := hideB2 (fun V : Gr W => tab_later HT.out (grw_below W V))
            clear p0 p1 p2 p3 p4 A1
            refine wp_region_grow ?_ ?_ ?_
            · kernel_rfl
            · kernel_rfl
            · intro hne0
              repeat (go_big_quiet_step ((first | (go_at_call 91; exact grow_call (HH.out _)) | (go_at_call 86; exact grow_same (HW.out _)) | (go_at_call 21; exact grow_call (HCP.out _)) | (go_at_call 92; exact grow_call (HQO.out _)) | (go_at_call 81; exact grow_call (HUT.out _ (HTV.out _))) | (go_at_call 41; exact grow_same (HTO.out _)))))
              refine wpQuiet_nil ?_
              rintro _ ⟨V, rfl⟩
              have HBV := hideB2 (below_then HB.out (grw_below W V))
              generalize grw W V = w3 at *
              go_wp2
              go_ret
              exact ⟨ret_bool HE.out, HBV.out⟩
  · rw [h3] at HE
    rw [eqB_nilU] at h3
    cases b1
    · rw [show (false && b2 && !true && b4 && b5 && b6) = false by simp] at HE
      go_enter Tryz.func47, Tryz.ntmps47
      go_wp2
      generalize hW0 : w.alloc (.cells #[.string ho, .int .i64 po, .string pa, .string qu, .bool hq] 38) = W at *
      clear hW0
      obtain ⟨p0, p1, p2, p3, p4⟩ := A1.out.u5
      have z0 := fun V => grw_some p0 V
      have z1 := fun V => grw_some p1 V
      have z2 := fun V => grw_some p2 V
      have z3 := fun V => grw_some p3 V
      have z4 := fun V => grw_some p4 V
      have HTV := hideB2 (fun V : Gr W => tab_later HT.out (grw_below W V))
      clear p0 p1 p2 p3 p4 A1
      refine wp_region_grow ?_ ?_ ?_
      · kernel_rfl
      · kernel_rfl
      · intro hne0
        repeat (go_big_quiet_step ((first | (go_at_call 91; exact grow_call (HH.out _)) | (go_at_call 86; exact grow_same (HW.out _)) | (go_at_call 21; exact grow_call (HCP.out _)) | (go_at_call 92; exact grow_call (HQO.out _)) | (go_at_call 81; exact grow_call (HUT.out _ (HTV.out _))) | (go_at_call 41; exact grow_same (HTO.out _)))))
        refine wpQuiet_nil ?_
        rintro _ ⟨V, rfl⟩
        have HBV := hideB2 (below_then HB.out (grw_below W V))
        generalize grw W V = w3 at *
        go_wp2
        go_ret
        exact ⟨ret_bool HE.out, HBV.out⟩
    · cases b2
      · rw [show (true && false && !true && b4 && b5 && b6) = false by simp] at HE
        go_enter Tryz.func47, Tryz.ntmps47
        go_wp2
        generalize hW0 : w.alloc (.cells #[.string ho, .int .i64 po, .string pa, .string qu, .bool hq] 38) = W at *
        clear hW0
        obtain ⟨p0, p1, p2, p3, p4⟩ := A1.out.u5
        have z0 := fun V => grw_some p0 V
        have z1 := fun V => grw_some p1 V
        have z2 := fun V => grw_some p2 V
        have z3 := fun V => grw_some p3 V
        have z4 := fun V => grw_some p4 V
        have HTV := hideB2 (fun V : Gr W => tab_later HT.out (grw_below W V))
        clear p0 p1 p2 p3 p4 A1
        refine wp_region_grow ?_ ?_ ?_
        · kernel_rfl
        · kernel_rfl
        · intro hne0
          repeat (go_big_quiet_step ((first | (go_at_call 91; exact grow_call (HH.out _)) | (go_at_call 86; exact grow_same (HW.out _)) | (go_at_call 21; exact grow_call (HCP.out _)) | (go_at_call 92; exact grow_call (HQO.out _)) | (go_at_call 81; exact grow_call (HUT.out _ (HTV.out _))) | (go_at_call 41; exact grow_same (HTO.out _)))))
          refine wpQuiet_nil ?_
          rintro _ ⟨V, rfl⟩
          have HBV := hideB2 (below_then HB.out (grw_below W V))
          generalize grw W V = w3 at *
          go_wp2
          go_ret
          exact ⟨ret_bool HE.out, HBV.out⟩
      · rw [show (true && true && !true && b4 && b5 && b6) = false by simp] at HE
        go_enter Tryz.func47, Tryz.ntmps47
        go_wp2
        generalize hW0 : w.alloc (.cells #[.string ho, .int .i64 po, .string pa, .string qu, .bool hq] 38) = W at *
        clear hW0
        obtain ⟨p0, p1, p2, p3, p4⟩ := A1.out.u5
        have z0 := fun V => grw_some p0 V
        have z1 := fun V => grw_some p1 V
        have z2 := fun V => grw_some p2 V
        have z3 := fun V => grw_some p3 V
        have z4 := fun V => grw_some p4 V
        have HTV := hideB2 (fun V : Gr W => tab_later HT.out (grw_below W V))
        clear p0 p1 p2 p3 p4 A1
        refine wp_region_grow ?_ ?_ ?_
        · kernel_rfl
        · kernel_rfl
        · intro hne0
          repeat (go_big_quiet_step ((first | (go_at_call 91; exact grow_call (HH.out _)) | (go_at_call 86; exact grow_same (HW.out _)) | (go_at_call 21; exact grow_call (HCP.out _)) | (go_at_call 92; exact grow_call (HQO.out _)) | (go_at_call 81; exact grow_call (HUT.out _ (HTV.out _))) | (go_at_call 41; exact grow_same (HTO.out _)))))
          refine wpQuiet_nil ?_
          rintro _ ⟨V, rfl⟩
          have HBV := hideB2 (below_then HB.out (grw_below W V))
          generalize grw W V = w3 at *
          go_wp2
          go_ret
          exact ⟨ret_bool HE.out, HBV.out⟩
def textB (ho pa qu : ByteArray) (po : Int) (hq : Bool) : ByteArray := if urlQ ho pa qu po hq = true then utxt ho pa qu po hq else ⟨#[]⟩
set_option maxHeartbeats 2000000 in
theorem UrlText_any (ho pa qu : ByteArray) (po : Int) (hq : Bool) (w : World) (htab : Tab10 w) (hho : ho.size ≤ 1048576) (hpa : pa.size ≤ 1048576) (hqu : qu.size ≤ 1048576) :
    Calls Tryz.prog 38 #[.agg #[.string ho, .int .i64 po, .string pa, .string qu, .bool hq]] w fun e w' => e = .returned (.string (textB ho pa qu po hq)) ∧ Below w.heap.size w w' := by
  have HB := hideB2 (below_a1 w (.cells #[.string ho, .int .i64 po, .string pa, .string qu, .bool hq] 38))
  have A1 := hideB2 (Blk.new w #[.string ho, .int .i64 po, .string pa, .string qu, .bool hq] 38)
  have HT := hideB2 (tab_later htab HB.out)
  have HU := hideB2 (fun W h => UrlOk_any ho pa qu po hq W h hho hpa hqu)
  have HX := hideB2 (fun W h => urlText_any ho pa qu po hq W h hho hpa hqu)
  unfold textB
  clear htab
  generalize utxt ho pa qu po hq = T at *
  cases hh : urlQ ho pa qu po hq
  · rw [hh] at HU
    rw [if_neg (by simp)]
    clear hh
    go_enter Tryz.func38, Tryz.ntmps38
    go_wp2_with (go_at_call 47; refine (HU.out _ HT.out).mono ?_; rintro e w1 ⟨rfl, hb1⟩)
    go_ret
    exact ⟨rfl, below_then HB.out hb1⟩
  · rw [hh] at HU
    rw [if_pos rfl]
    clear hh
    go_enter Tryz.func38, Tryz.ntmps38
    go_wp2_with (first
      | (go_at_call 47; refine (HU.out _ HT.out).mono ?_; rintro e w1 ⟨rfl, hb1⟩; obtain ⟨p0, p1, p2, p3, p4⟩ := (A1.out.later hb1).u5)
      | (go_at_call 81; refine (HX.out _ (tab_later HT.out hb1)).mono ?_; rintro e w2 ⟨rfl, hb2⟩))
    go_ret
    exact ⟨rfl, below_then (below_then HB.out hb1) hb2⟩
end Go.Proofs.YtmhohponikolfaaGreatDoor
namespace Go.Proofs.YtmhohponikolfaaGreatDoor
set_option linter.unusedVariables false
set_option linter.unusedSimpArgs false
open Go.RowKit
def pieceQ (x : ByteArray) : Bool := !eqB x ⟨#[]⟩ && allB pc8 x
theorem hostQ_pieces {s : ByteArray} (h : s.size ≤ 60) : hostQ s = (splS 46 s).all pieceQ := by
  unfold hostQ
  rw [decide_eq_true h, Bool.true_and, hst_pieces]
  induction splS 46 s with
  | nil => rfl
  | cons x r ih =>
    rw [List.all_cons, List.any_cons, List.all_cons, ← ih]
    unfold pieceQ
    cases allB pc8 x <;> cases eqB x ⟨#[]⟩ <;> simp
theorem piece_empty {x : ByteArray} (h : x.size = 0) : pieceQ x = false := by
  have e : x = ⟨#[]⟩ := by
    apply bytes_ext
    exact List.eq_nil_of_length_eq_zero (by rw [len_data]; exact h)
  rw [e]; unfold pieceQ; rw [eqB_self]; rfl
theorem hostQ_empty {s : ByteArray} (h : s.size = 0) : hostQ s = false := by
  have e : s = ⟨#[]⟩ := by
    apply bytes_ext
    exact List.eq_nil_of_length_eq_zero (by rw [len_data]; exact h)
  rw [hostQ_pieces (by omega), e, (splS_none (c := 46) (s := ⟨#[]⟩) (idxS_miss (fun j hj => absurd hj (Nat.not_lt_zero j)))).2, List.all_cons, piece_empty rfl]
  rfl
theorem pieces_no {l : List ByteArray} {i : Nat} (hi : i < l.length) (h : pieceQ (l.getD i ⟨#[]⟩) = false) : l.all pieceQ = false := by
  rw [List.all_eq_false]
  refine ⟨l[i], List.getElem_mem hi, ?_⟩
  rw [List.getD, List.getElem?_eq_getElem hi] at h
  simpa using h
theorem pieces_yes {l : List ByteArray} (h : ∀ j, j < l.length → pieceQ (l.getD j ⟨#[]⟩) = true) : l.all pieceQ = true := by
  rw [List.all_eq_true]
  intro x hx
  obtain ⟨j, hj, rfl⟩ := List.mem_iff_getElem.1 hx
  have := h j hj
  rwa [List.getD, List.getElem?_eq_getElem hj] at this
theorem piece_no {x : ByteArray} {k : Nat} (hk : k < x.size) (h : pc8 (at8 x k) = false) : pieceQ x = false := by
  unfold pieceQ; rw [allB_no hk h, Bool.and_false]
theorem piece_yes {x : ByteArray} (h0 : x.size ≠ 0) (h : ∀ j, j < x.size → pc8 (at8 x j) = true) : pieceQ x = true := by
  unfold pieceQ
  have : eqB x ⟨#[]⟩ = false := by
    cases he : eqB x ⟨#[]⟩ with
    | false => rfl
    | true => exact absurd (by rw [eqB_iff.1 he]; rfl) h0
  rw [this, allB_yes h]; rfl
set_option maxRecDepth 100000 in
set_option maxHeartbeats 4000000 in
theorem l7host_any (s : ByteArray) (w : World) (hs : s.size ≤ maxLen) :
    Calls Tryz.prog 105 #[.string s] w fun e w' => e = .returned (.bool (hostQ s)) ∧ Below w.heap.size w w' := by
  have hs' := hs
  unfold maxLen at hs'
  by_cases h0 : s.size = 0
  · rw [hostQ_empty h0]
    have e0 : ((s.size : Int) == 0) = true := by rw [beq_iff_eq]; omega
    go_enter Tryz.func105, Tryz.ntmps105
    go_wp2
    go_ret
    exact ⟨rfl, Below.refl _ _⟩
  · have e0 : ((s.size : Int) == 0) = false := by rw [beq_eq_false_iff_ne]; omega
    by_cases h60 : (60 : Int) < (s.size : Int)
    · rw [show hostQ s = false by unfold hostQ; rw [decide_eq_false (by omega)]; rfl]
      go_enter Tryz.func105, Tryz.ntmps105
      go_wp2
      go_ret
      exact ⟨rfl, Below.refl _ _⟩
    · have HSP := hideB2 (fun W => l7split_any s 46 W (by omega))
      change Hid (∀ W, Calls _ _ #[_, .int .u8 46] W _) at HSP
      have hls := (splS_le 46 s).1
      have HMZ := hideB2 (fun x (h : x ∈ splS 46 s) => splS_mem h)
      generalize hR : hostQ s = R
      have HR := hideB2 (show R = (splS 46 s).all pieceQ by rw [← hR]; exact hostQ_pieces (by omega))
      clear hR
      generalize splS 46 s = L at *
      go_enter Tryz.func105, Tryz.ntmps105
      go_wp2_with fail
      refine (HSP.out _).mono ?_
      rintro e w1 ⟨v1, rfl, hbuf⟩
      have HB := hideB2 hbuf.below
      have hcells := fun (h : 0 < L.length) => hbuf.cells h
      obtain ⟨a, c0, rfl⟩ := hbuf.form
      have HC := hideB2 (show ∀ j, j < L.length → ∃ g, a = some ⟨g, 0, none⟩ ∧ w1.cell? ⟨g, j, none⟩ = some (.string (L.getD j ⟨#[]⟩)) from fun j hj => by
        obtain ⟨g, cap, e, _, hlt, hc⟩ := hcells (by omega)
        injection e with e1
        exact ⟨g, e1, hc j hj⟩)
      have HPN := hideB2 (fun i => pieces_no (l := L) (i := i))
      have HPY := hideB2 (pieces_yes (l := L))
      clear hcells hbuf
      generalize hn : L.length = n at *
      have HN := hideB2 hn
      clear hn
      go_wp2
      go_loop [4] (fun iv => ∃ i : Nat, i ≤ n ∧ iv = .int .i64 i ∧ ∀ j, j < i → pieceQ (L.getD j ⟨#[]⟩) = true) (fun iv => n - (intOf iv).toNat)
      case atStart => exact ⟨0, Nat.zero_le _, rfl, fun j hj => by omega⟩
      case round =>
        obtain ⟨i, hi, rfl, hall⟩ := hrel
        have HA := hideB2 hall
        clear hall
        by_cases hlt : i < n
        · obtain ⟨g, rfl, p0⟩ := HC.out i hlt
          have HXS := hideB2 (show (L.getD i ⟨#[]⟩).size ≤ s.size by
            have hh : i < L.length := by rw [HN.out]; exact hlt
            rw [List.getD, List.getElem?_eq_getElem hh]
            exact HMZ.out _ (List.getElem_mem hh))
          have HNO := hideB2 (fun (h : pieceQ (L.getD i ⟨#[]⟩) = false) => show R = false by rw [HR.out]; exact HPN.out i hlt h)
          have HST := hideB2 (fun (h : pieceQ (L.getD i ⟨#[]⟩) = true) => all_succ HA.out h)
          generalize L.getD i ⟨#[]⟩ = x at *
          have hxz : x.size ≤ 60 := by have := HXS.out; omega
          by_cases hx0 : x.size = 0
          · have hne := empty_of hx0
            have HF := hideB2 (HNO.out (piece_empty hx0))
            go_wp2
            go_ret
            exact ⟨ret_bool HF.out, HB.out⟩
          · have hne := nonempty_of hx0
            have HYES := hideB2 (piece_yes hx0)
            have HNOX := hideB2 (fun k => piece_no (x := x) (k := k))
            clear hx0
            go_wp2
            go_loop [5] (fun kv => ∃ k : Nat, k ≤ x.size ∧ kv = .int .i64 k ∧ ∀ j, j < k → pc8 (at8 x j) = true) (fun kv => x.size - (intOf kv).toNat)
            case atStart => exact ⟨0, Nat.zero_le _, rfl, fun j hj => by omega⟩
            case round =>
              obtain ⟨k, hk, rfl, hall⟩ := hrel
              have HP := hideB2 hall
              clear hall
              by_cases hkx : k < x.size
              · have hat : x[k] = at8 x k := at8_eq x k hkx
                have HAT := hideB2 (show pc8 (at8 x k) = pcP (x[k].toNat : Int) by rw [hat]; rfl)
                have HDG := hideB2 (fun W => l1digit_any (x[k].toNat : Int) W)
                clear hat
                by_cases a1 : (97 : Int) ≤ (x[k].toNat : Int)
                · by_cases a2 : (x[k].toNat : Int) ≤ 122
                  · have HQ := hideB2 (show pc8 (at8 x k) = true by rw [HAT.out]; unfold pcP; simp [a1, a2])
                    go_wp2
                    go_round
                    case rel => exact ⟨k + 1, by omega, by go_num, all_succ HP.out HQ.out⟩
                    case measure => simp [intOf]; omega
                  · have hd : digP (x[k].toNat : Int) = false := by unfold digP; rw [decide_eq_false (show ¬ (x[k].toNat : Int) ≤ 57 by omega), Bool.and_false]
                    have h45 : ((x[k].toNat : Int) != 45) = true := by rw [bne_iff_ne]; omega
                    have HF := hideB2 (HNO.out (HNOX.out k hkx (by rw [HAT.out]; unfold pcP; rw [hd, decide_eq_false a2, beq_eq_false_iff_ne.2 (show (x[k].toNat : Int) ≠ 45 by omega)]; simp)))
                    rw [hd] at HDG
                    clear hd
                    go_wp2_with (go_at_call 103; refine (HDG.out _).mono ?_; rintro e w' ⟨rfl, rfl⟩)
                    go_ret
                    exact ⟨ret_bool HF.out, HB.out⟩
                · cases hd : digP (x[k].toNat : Int)
                  · rw [hd] at HDG
                    cases h45 : ((x[k].toNat : Int) == 45)
                    · have h45' : ((x[k].toNat : Int) != 45) = true := by rw [bne, h45]; rfl
                      have HF := hideB2 (HNO.out (HNOX.out k hkx (by rw [HAT.out]; unfold pcP; rw [hd, decide_eq_false a1, h45]; simp)))
                      clear hd h45
                      go_wp2_with (go_at_call 103; refine (HDG.out _).mono ?_; rintro e w' ⟨rfl, rfl⟩)
                      go_ret
                      exact ⟨ret_bool HF.out, HB.out⟩
                    · have h45' : ((x[k].toNat : Int) != 45) = false := by rw [bne, h45]; rfl
                      have HQ := hideB2 (show pc8 (at8 x k) = true by rw [HAT.out]; unfold pcP; rw [h45]; simp)
                      clear hd h45
                      go_wp2_with (go_at_call 103; refine (HDG.out _).mono ?_; rintro e w' ⟨rfl, rfl⟩)
                      go_round
                      case rel => exact ⟨k + 1, by omega, by go_num, all_succ HP.out HQ.out⟩
                      case measure => simp [intOf]; omega
                  · rw [hd] at HDG
                    have HQ := hideB2 (show pc8 (at8 x k) = true by rw [HAT.out]; unfold pcP; rw [hd]; simp)
                    clear hd
                    go_wp2_with (go_at_call 103; refine (HDG.out _).mono ?_; rintro e w' ⟨rfl, rfl⟩)
                    go_round
                    case rel => exact ⟨k + 1, by omega, by go_num, all_succ HP.out HQ.out⟩
                    case measure => simp [intOf]; omega
              · have HT := hideB2 (HST.out (HYES.out (fun j hj => HP.out j (by omega))))
                go_wp2
                go_round
                case rel => exact ⟨i + 1, by omega, by go_num, HT.out⟩
                case measure => simp [intOf]; omega
        · have HF := hideB2 (show R = true by rw [HR.out]; exact HPY.out (fun j hj => HA.out j (by omega)))
          go_wp2
          go_ret
          exact ⟨ret_bool HF.out, HB.out⟩
end Go.Proofs.YtmhohponikolfaaGreatDoor
namespace Go.Proofs.YtmhohponikolfaaGreatDoor
set_option linter.unusedVariables false
set_option linter.unusedSimpArgs false
open Go.RowKit
set_option maxHeartbeats 1000000 in
theorem l7port_any (ho pa qu : ByteArray) (po : Int) (hq : Bool) (w : World) :
    Calls Tryz.prog 121 #[.agg #[.string ho, .int .i64 po, .string pa, .string qu, .bool hq]] w fun e w' => e = .returned (.string (portB po)) ∧ Below w.heap.size w w' := by
  have HB := hideB2 (below_a1 w (.cells #[.string ho, .int .i64 po, .string pa, .string qu, .bool hq] 38))
  cases h80 : (po == 80)
  · rw [portB_no h80]
    have HD := hideB2 (fun W => sDecText_all po W)
    have hdz := decT_size po
    generalize decT po = d at *
    go_enter Tryz.func121, Tryz.ntmps121
    go_wp2_with (go_at_call 104; refine (HD.out _).mono ?_; rintro e w1 ⟨rfl, hb1⟩)
    go_ret
    exact ⟨rfl, below_then HB.out hb1⟩
  · obtain rfl := beq_iff_eq.1 h80
    go_enter Tryz.func121, Tryz.ntmps121
    go_wp2
    go_ret
    exact ⟨rfl, HB.out⟩
set_option maxHeartbeats 1000000 in
theorem l7query_any (ho pa qu : ByteArray) (po : Int) (hq : Bool) (w : World) (hqu : qu.size ≤ 1048576) :
    Calls Tryz.prog 122 #[.agg #[.string ho, .int .i64 po, .string pa, .string qu, .bool hq]] w fun e w' => e = .returned (.string (qryB qu hq)) ∧ Below w.heap.size w w' := by
  have HB := hideB2 (below_a1 w (.cells #[.string ho, .int .i64 po, .string pa, .string qu, .bool hq] 38))
  cases hq
  · go_enter Tryz.func122, Tryz.ntmps122
    go_wp2
    go_ret
    exact ⟨rfl, HB.out⟩
  · go_enter Tryz.func122, Tryz.ntmps122
    go_wp2
    go_ret
    exact ⟨rfl, HB.out⟩
set_option maxRecDepth 100000 in
set_option maxHeartbeats 2000000 in
theorem l7text_any (ho pa qu : ByteArray) (po : Int) (hq : Bool) (w : World) (hho : ho.size ≤ 1048576) (hpa : pa.size ≤ 1048576) (hqu : qu.size ≤ 1048576) :
    Calls Tryz.prog 82 #[.agg #[.string ho, .int .i64 po, .string pa, .string qu, .bool hq]] w fun e w' => e = .returned (.string (utxt ho pa qu po hq)) ∧ Below w.heap.size w w' := by
  have HB := hideB2 (below_a1 w (.cells #[.string ho, .int .i64 po, .string pa, .string qu, .bool hq] 38))
  have A1 := Blk.new w #[.string ho, .int .i64 po, .string pa, .string qu, .bool hq] 38
  have hz1 := portB_size po
  have hz2 := qryB_size qu hq
  have HP := hideB2 (fun W => l7port_any ho pa qu po hq W)
  have HQ := hideB2 (fun W => l7query_any ho pa qu po hq W hqu)
  have HE := hideB2 (show utxt ho pa qu po hq = (((⟨#[104, 116, 116, 112, 58, 47, 47]⟩ ++ ho) ++ portB po) ++ pa) ++ qryB qu hq from rfl)
  generalize utxt ho pa qu po hq = R at *
  generalize portB po = P at *
  generalize qryB qu hq = Q at *
  have hs0 : (⟨#[104, 116, 116, 112, 58, 47, 47]⟩ : ByteArray).size = 7 := rfl
  have hs1 : ((⟨#[104, 116, 116, 112, 58, 47, 47]⟩ : ByteArray) ++ ho).size ≤ 1048583 := by rw [ByteArray.size_append]; omega
  have hs2 : (((⟨#[104, 116, 116, 112, 58, 47, 47]⟩ : ByteArray) ++ ho) ++ P).size ≤ 1048600 := by rw [ByteArray.size_append]; omega
  have hs3 : ((((⟨#[104, 116, 116, 112, 58, 47, 47]⟩ : ByteArray) ++ ho) ++ P) ++ pa).size ≤ 2097180 := by rw [ByteArray.size_append]; omega
  go_enter Tryz.func82, Tryz.ntmps82
  go_wp2
  generalize hW : w.alloc (.cells #[.string ho, .int .i64 po, .string pa, .string qu, .bool hq] 38) = W at *
  clear hW
  obtain ⟨p0, p1, p2, p3, p4⟩ := A1.u5
  have z0 := fun V => grw_some p0 V
  have z1 := fun V => grw_some p1 V
  have z2 := fun V => grw_some p2 V
  have z3 := fun V => grw_some p3 V
  have z4 := fun V => grw_some p4 V
  clear p0 p1 p2 p3 p4 A1
  refine wp_region_grow ?_ ?_ ?_
  · kernel_rfl
  · kernel_rfl
  · intro hne
    repeat (go_big_quiet_step ((first | (go_at_call 121; exact grow_call (HP.out _)) | (go_at_call 122; exact grow_call (HQ.out _)))))
    refine wpQuiet_nil ?_
    rintro _ ⟨V, rfl⟩
    have HBV := hideB2 (below_then HB.out (grw_below W V))
    generalize grw W V = w3 at *
    go_wp2
    go_ret
    exact ⟨ret_str HE.out, HBV.out⟩
/-- What of an address's text may be seen. -/
theorem digits_vis {n : Int} (h0 : 0 ≤ n) (h1 : n ≤ 65535) : allB vis8 (decT n) = true := by
  unfold decT
  rw [if_pos ⟨h0, by omega⟩]
  unfold allB decB
  rw [List.all_eq_true]
  intro b hb
  have hd := allDig_dec n.toNat
  unfold allDig at hd
  rw [List.all_eq_true] at hd
  have h2 := digP_iff.1 (hd b hb)
  unfold vis8 visP
  rw [decide_eq_true (show (33 : Int) ≤ (b.toNat : Int) by omega), decide_eq_true (show (b.toNat : Int) ≤ 126 by omega)]
  rfl
theorem clean_vis {s : ByteArray} (h0 : eqB s ⟨#[]⟩ = false) (h : eqB (clnB s) s = true) : allB vis8 s = true := by
  have h1 := eqB_iff.1 h
  cases hp : pthQ s
  · rw [clnB_no hp] at h1
    rw [← h1] at h0
    rw [eqB_self] at h0; cases h0
  · unfold pthQ at hp
    rw [Bool.and_eq_true, Bool.and_eq_true] at hp
    exact (targQ_iff.1 hp.1.1).2.2
theorem eqB_upt (q : ByteArray) : eqB (uptS 35 q) q = decide (idxS 35 q < 0) := by
  rcases idxS_cases 35 q with h | ⟨i, h, hi⟩
  · rw [uptS_none h, eqB_self, h]; rfl
  · rw [uptS_some h, h, decide_eq_false (by omega)]
    cases he : eqB (q.extract 0 i) q with
    | false => rfl
    | true =>
      have := congrArg ByteArray.size (eqB_iff.1 he)
      rw [ByteArray.size_extract] at this
      omega
theorem urlQ_split (ho pa qu : ByteArray) (po : Int) (hq : Bool) (h1 : hostQ ho = true) (h2 : ¬ po < 1) (h3 : ¬ (65535 : Int) < po) (h4 : eqB pa ⟨#[]⟩ = false) (h5 : eqB (clnB pa) pa = true) (h6 : (hq || eqB qu ⟨#[]⟩) = true) :
    urlQ ho pa qu po hq = (decide (qu.size ≤ 200) && ((eqB qu ⟨#[]⟩ || allB vis8 qu) && (decide (idxS 35 qu < 0) && decide ((utxt ho pa qu po hq).size ≤ 200)))) := by
  have v1 : allB vis8 ho = true := by
    unfold hostQ at h1
    rw [Bool.and_eq_true, Bool.and_eq_true] at h1
    exact host_vis h1.1.2
  have v2 : allB vis8 (portB po) = true := by
    unfold portB
    split
    · rfl
    · rw [all_app, digits_vis (by omega) (by omega)]; rfl
  have v3 := clean_vis h4 h5
  have v4 : allB vis8 (utxt ho pa qu po hq) = allB vis8 (qryB qu hq) := by
    unfold utxt
    rw [all_app, all_app, all_app, all_app, v1, v2, v3]
    rfl
  have v5 : allB vis8 (qryB qu hq) = (eqB qu ⟨#[]⟩ || allB vis8 qu) := by
    unfold qryB
    cases hq
    · rw [Bool.false_or] at h6
      rw [h6]; rfl
    · rw [if_pos rfl, all_app]
      cases he : eqB qu ⟨#[]⟩
      · rfl
      · rw [eqB_iff.1 he]; rfl
  have hz := utxt_size ho pa qu po hq
  have hw : withinB po 1 65535 = true := within_iff.2 ⟨by omega, by omega⟩
  unfold urlQ queQ
  rw [h1, hw, h4, h5, h6]
  unfold targQ
  rw [v4, v5, decide_eq_true (show 1 ≤ ((utxt ho pa qu po hq).size : Int) by omega)]
  simp only [Bool.true_and, Bool.not_false]
  generalize (eqB qu ⟨#[]⟩ || allB vis8 qu) = x
  by_cases h200 : (utxt ho pa qu po hq).size ≤ 200
  · have hq2 : qu.size ≤ 200 := by
      cases hq
      · rw [Bool.false_or] at h6
        rw [eqB_iff.1 h6]; show (0 : Nat) ≤ 200; omega
      · have : (qryB qu true).size = 1 + qu.size := by unfold qryB; rw [if_pos rfl, ByteArray.size_append]; rfl
        omega
    rw [decide_eq_true h200, decide_eq_true hq2, decide_eq_true (show ((utxt ho pa qu po hq).size : Int) ≤ 200 by omega)]
    cases x <;> simp
  · rw [decide_eq_false h200, decide_eq_false (show ¬ ((utxt ho pa qu po hq).size : Int) ≤ 200 by omega)]
    simp
set_option maxRecDepth 100000 in
set_option maxHeartbeats 8000000 in
theorem sUrlOk_any (ho pa qu : ByteArray) (po : Int) (hq : Bool) (w : World) (hho : ho.size ≤ 1048576) (hpa : pa.size ≤ 1048576) (hqu : qu.size ≤ 1048576) :
    Calls Tryz.prog 62 #[.agg #[.string ho, .int .i64 po, .string pa, .string qu, .bool hq]] w fun e w' => e = .returned (.bool (urlQ ho pa qu po hq)) ∧ Below w.heap.size w w' := by
  have HB := hideB2 (below_a1 w (.cells #[.string ho, .int .i64 po, .string pa, .string qu, .bool hq] 38))
  have A1 := hideB2 (Blk.new w #[.string ho, .int .i64 po, .string pa, .string qu, .bool hq] 38)
  have HH := hideB2 (fun W => l7host_any ho W (by unfold maxLen; omega))
  have HCP := hideB2 (fun W => sCleanPath_any pa W (by unfold maxLen; omega))
  have HV := hideB2 (fun W => l6visible_any qu W (by unfold maxLen; omega))
  have HU := hideB2 (fun W => l6uptoS_any qu 35 W (by unfold maxLen; omega))
  change Hid (∀ W, Calls _ _ #[_, .int .u8 35] W _) at HU
  have HX := hideB2 (fun W => l7text_any ho pa qu po hq W hho hpa hqu)
  cases h1 : hostQ ho
  · have HE := hideB2 (show urlQ ho pa qu po hq = false by unfold urlQ; rw [h1]; simp)
    rw [h1] at HH
    clear h1
    go_enter Tryz.func62, Tryz.ntmps62
    go_wp2
    generalize hW0 : w.alloc (.cells #[.string ho, .int .i64 po, .string pa, .string qu, .bool hq] 38) = W at *
    clear hW0
    obtain ⟨p0, p1, p2, p3, p4⟩ := A1.out.u5
    have z0 := fun V => grw_some p0 V
    have z1 := fun V => grw_some p1 V
    have z2 := fun V => grw_some p2 V
    have z3 := fun V => grw_some p3 V
    have z4 := fun V => grw_some p4 V
    clear p0 p1 p2 p3 p4
    refine wp_region_grow ?_ ?_ ?_
    · kernel_rfl
    · kernel_rfl
    · intro hne0
      repeat (go_big_quiet_step ((first | (go_at_call 105; exact grow_call (HH.out _)) | (go_at_call 22; exact grow_call (HCP.out _)))))
      refine wpQuiet_nil ?_
      rintro _ ⟨V, rfl⟩
      have HBV := hideB2 (below_then HB.out (grw_below W V))
      generalize grw W V = w3 at *
      go_wp2
      go_ret
      exact ⟨ret_bool HE.out, HBV.out⟩
  · by_cases h2 : po < 1
    · have d2 := decide_eq_true h2
      have HE := hideB2 (show urlQ ho pa qu po hq = false by unfold urlQ withinB; rw [decide_eq_false (show ¬ 1 ≤ po by omega)]; simp)
      rw [h1] at HH
      clear h1
      go_enter Tryz.func62, Tryz.ntmps62
      go_wp2
      generalize hW0 : w.alloc (.cells #[.string ho, .int .i64 po, .string pa, .string qu, .bool hq] 38) = W at *
      clear hW0
      obtain ⟨p0, p1, p2, p3, p4⟩ := A1.out.u5
      have z0 := fun V => grw_some p0 V
      have z1 := fun V => grw_some p1 V
      have z2 := fun V => grw_some p2 V
      have z3 := fun V => grw_some p3 V
      have z4 := fun V => grw_some p4 V
      clear p0 p1 p2 p3 p4
      refine wp_region_grow ?_ ?_ ?_
      · kernel_rfl
      · kernel_rfl
      · intro hne0
        repeat (go_big_quiet_step ((first | (go_at_call 105; exact grow_call (HH.out _)) | (go_at_call 22; exact grow_call (HCP.out _)))))
        refine wpQuiet_nil ?_
        rintro _ ⟨V, rfl⟩
        have HBV := hideB2 (below_then HB.out (grw_below W V))
        generalize grw W V = w3 at *
        go_wp2
        go_ret
        exact ⟨ret_bool HE.out, HBV.out⟩
    · have d2 := decide_eq_false h2
      by_cases h3 : (65535 : Int) < po
      · have d3 := decide_eq_true h3
        have HE := hideB2 (show urlQ ho pa qu po hq = false by unfold urlQ withinB; rw [decide_eq_false (show ¬ po ≤ 65535 by omega)]; simp)
        rw [h1] at HH
        clear h1
        go_enter Tryz.func62, Tryz.ntmps62
        go_wp2
        generalize hW0 : w.alloc (.cells #[.string ho, .int .i64 po, .string pa, .string qu, .bool hq] 38) = W at *
        clear hW0
        obtain ⟨p0, p1, p2, p3, p4⟩ := A1.out.u5
        have z0 := fun V => grw_some p0 V
        have z1 := fun V => grw_some p1 V
        have z2 := fun V => grw_some p2 V
        have z3 := fun V => grw_some p3 V
        have z4 := fun V => grw_some p4 V
        clear p0 p1 p2 p3 p4
        refine wp_region_grow ?_ ?_ ?_
        · kernel_rfl
        · kernel_rfl
        · intro hne0
          repeat (go_big_quiet_step ((first | (go_at_call 105; exact grow_call (HH.out _)) | (go_at_call 22; exact grow_call (HCP.out _)))))
          refine wpQuiet_nil ?_
          rintro _ ⟨V, rfl⟩
          have HBV := hideB2 (below_then HB.out (grw_below W V))
          generalize grw W V = w3 at *
          go_wp2
          go_ret
          exact ⟨ret_bool HE.out, HBV.out⟩
      · have d3 := decide_eq_false h3
        cases h4 : eqB pa ⟨#[]⟩
        · cases h5 : eqB (clnB pa) pa
          · have HE := hideB2 (show urlQ ho pa qu po hq = false by unfold urlQ; rw [h5]; simp)
            rw [h1] at HH
            rw [eqB_nilU] at h4
            have h5' : ((clnB pa).toList == pa.toList) = false := h5
            clear h1 h5
            generalize clnB pa = cp at *
            go_enter Tryz.func62, Tryz.ntmps62
            go_wp2
            generalize hW0 : w.alloc (.cells #[.string ho, .int .i64 po, .string pa, .string qu, .bool hq] 38) = W at *
            clear hW0
            obtain ⟨p0, p1, p2, p3, p4⟩ := A1.out.u5
            have z0 := fun V => grw_some p0 V
            have z1 := fun V => grw_some p1 V
            have z2 := fun V => grw_some p2 V
            have z3 := fun V => grw_some p3 V
            have z4 := fun V => grw_some p4 V
            clear p0 p1 p2 p3 p4
            refine wp_region_grow ?_ ?_ ?_
            · kernel_rfl
            · kernel_rfl
            · intro hne0
              repeat (go_big_quiet_step ((first | (go_at_call 105; exact grow_call (HH.out _)) | (go_at_call 22; exact grow_call (HCP.out _)))))
              refine wpQuiet_nil ?_
              rintro _ ⟨V, rfl⟩
              have HBV := hideB2 (below_then HB.out (grw_below W V))
              generalize grw W V = w3 at *
              go_wp2
              go_ret
              exact ⟨ret_bool HE.out, HBV.out⟩
          · have h5' : ((clnB pa).toList == pa.toList) = true := h5
            cases h6 : (hq || eqB qu ⟨#[]⟩)
            · have HE := hideB2 (show urlQ ho pa qu po hq = false by unfold urlQ queQ; rw [h6]; simp)
              rw [h1] at HH
              rw [eqB_nilU] at h4
              rw [Bool.or_eq_false_iff, eqB_nilU] at h6
              obtain ⟨rfl, h7⟩ := h6
              clear h1 h5
              generalize clnB pa = cp at *
              go_enter Tryz.func62, Tryz.ntmps62
              go_wp2
              generalize hW0 : w.alloc (.cells #[.string ho, .int .i64 po, .string pa, .string qu, .bool false] 38) = W at *
              clear hW0
              obtain ⟨p0, p1, p2, p3, p4⟩ := A1.out.u5
              have z0 := fun V => grw_some p0 V
              have z1 := fun V => grw_some p1 V
              have z2 := fun V => grw_some p2 V
              have z3 := fun V => grw_some p3 V
              have z4 := fun V => grw_some p4 V
              clear p0 p1 p2 p3 p4
              refine wp_region_grow ?_ ?_ ?_
              · kernel_rfl
              · kernel_rfl
              · intro hne0
                repeat (go_big_quiet_step ((first | (go_at_call 105; exact grow_call (HH.out _)) | (go_at_call 22; exact grow_call (HCP.out _)))))
                refine wpQuiet_nil ?_
                rintro _ ⟨V, rfl⟩
                have HBV := hideB2 (below_then HB.out (grw_below W V))
                generalize grw W V = w3 at *
                go_wp2
                go_ret
                exact ⟨ret_bool HE.out, HBV.out⟩
            · have HS := urlQ_split ho pa qu po hq h1 h2 h3 h4 h5 h6
              have HUQ := eqB_upt qu
              rw [h1] at HH
              rw [eqB_nilU] at h4
              clear h1 h5
              generalize clnB pa = cp at *
              by_cases h7 : (200 : Int) < (qu.size : Int)
              · have d7 := decide_eq_true h7
                have HE := hideB2 (show urlQ ho pa qu po hq = false by rw [HS, decide_eq_false (show ¬ qu.size ≤ 200 by omega)]; simp)
                clear HS HUQ
                cases hq
                · rw [Bool.false_or, eqB_nilU] at h6
                  go_enter Tryz.func62, Tryz.ntmps62
                  go_wp2
                  generalize hW0 : w.alloc (.cells #[.string ho, .int .i64 po, .string pa, .string qu, .bool false] 38) = W at *
                  clear hW0
                  obtain ⟨p0, p1, p2, p3, p4⟩ := A1.out.u5
                  have z0 := fun V => grw_some p0 V
                  have z1 := fun V => grw_some p1 V
                  have z2 := fun V => grw_some p2 V
                  have z3 := fun V => grw_some p3 V
                  have z4 := fun V => grw_some p4 V
                  clear p0 p1 p2 p3 p4
                  refine wp_region_grow ?_ ?_ ?_
                  · kernel_rfl
                  · kernel_rfl
                  · intro hne0
                    repeat (go_big_quiet_step ((first | (go_at_call 105; exact grow_call (HH.out _)) | (go_at_call 22; exact grow_call (HCP.out _)))))
                    refine wpQuiet_nil ?_
                    rintro _ ⟨V, rfl⟩
                    have HBV := hideB2 (below_then HB.out (grw_below W V))
                    have A2 := A1.out.later (grw_below W V)
                    clear z0 z1 z2 z3 z4 A1
                    generalize grw W V = w3 at *
                    obtain ⟨p0, p1, p2, p3, p4⟩ := A2.u5
                    have z0 := fun V => grw_some p0 V
                    have z1 := fun V => grw_some p1 V
                    have z2 := fun V => grw_some p2 V
                    have z3 := fun V => grw_some p3 V
                    have z4 := fun V => grw_some p4 V
                    have HA2 := hideB2 A2
                    clear p0 p1 p2 p3 p4 A2
                    go_wp2
                    refine wp_region_grow ?_ ?_ ?_
                    · kernel_rfl
                    · kernel_rfl
                    · intro hne1
                      repeat (go_big_quiet_step ((first | (go_at_call 57; exact grow_same (HV.out _)) | (go_at_call 60; exact grow_same (HU.out _)))))
                      refine wpQuiet_nil ?_
                      rintro _ ⟨V2, rfl⟩
                      have HB4 := hideB2 (below_then HBV.out (grw_below w3 V2))
                      have A3 := HA2.out.later (grw_below w3 V2)
                      clear z0 z1 z2 z3 z4 HA2
                      generalize grw w3 V2 = w4 at *
                      obtain ⟨p0, p1, p2, p3, p4⟩ := A3.u5
                      clear A3
                      go_wp2
                      go_ret
                      exact ⟨ret_bool HE.out, HB4.out⟩
                · clear h6
                  go_enter Tryz.func62, Tryz.ntmps62
                  go_wp2
                  generalize hW0 : w.alloc (.cells #[.string ho, .int .i64 po, .string pa, .string qu, .bool true] 38) = W at *
                  clear hW0
                  obtain ⟨p0, p1, p2, p3, p4⟩ := A1.out.u5
                  have z0 := fun V => grw_some p0 V
                  have z1 := fun V => grw_some p1 V
                  have z2 := fun V => grw_some p2 V
                  have z3 := fun V => grw_some p3 V
                  have z4 := fun V => grw_some p4 V
                  clear p0 p1 p2 p3 p4
                  refine wp_region_grow ?_ ?_ ?_
                  · kernel_rfl
                  · kernel_rfl
                  · intro hne0
                    repeat (go_big_quiet_step ((first | (go_at_call 105; exact grow_call (HH.out _)) | (go_at_call 22; exact grow_call (HCP.out _)))))
                    refine wpQuiet_nil ?_
                    rintro _ ⟨V, rfl⟩
                    have HBV := hideB2 (below_then HB.out (grw_below W V))
                    have A2 := A1.out.later (grw_below W V)
                    clear z0 z1 z2 z3 z4 A1
                    generalize grw W V = w3 at *
                    obtain ⟨p0, p1, p2, p3, p4⟩ := A2.u5
                    have z0 := fun V => grw_some p0 V
                    have z1 := fun V => grw_some p1 V
                    have z2 := fun V => grw_some p2 V
                    have z3 := fun V => grw_some p3 V
                    have z4 := fun V => grw_some p4 V
                    have HA2 := hideB2 A2
                    clear p0 p1 p2 p3 p4 A2
                    go_wp2
                    refine wp_region_grow ?_ ?_ ?_
                    · kernel_rfl
                    · kernel_rfl
                    · intro hne1
                      repeat (go_big_quiet_step ((first | (go_at_call 57; exact grow_same (HV.out _)) | (go_at_call 60; exact grow_same (HU.out _)))))
                      refine wpQuiet_nil ?_
                      rintro _ ⟨V2, rfl⟩
                      have HB4 := hideB2 (below_then HBV.out (grw_below w3 V2))
                      have A3 := HA2.out.later (grw_below w3 V2)
                      clear z0 z1 z2 z3 z4 HA2
                      generalize grw w3 V2 = w4 at *
                      obtain ⟨p0, p1, p2, p3, p4⟩ := A3.u5
                      clear A3
                      go_wp2
                      go_ret
                      exact ⟨ret_bool HE.out, HB4.out⟩
              · have d7 := decide_eq_false h7
                rw [decide_eq_true (show qu.size ≤ 200 by omega), Bool.true_and] at HS
                cases h8 : eqB qu ⟨#[]⟩
                · have h8' := h8
                  rw [eqB_nilU] at h8'
                  have hpos : (0 : Int) < (qu.size : Int) := by
                    rcases Nat.eq_zero_or_pos qu.size with h0 | h0
                    · rw [empty_of h0] at h8'; cases h8'
                    · omega
                  rw [decide_eq_true hpos, Bool.true_and] at HV
                  rw [h8, Bool.false_or] at HS
                  rw [h8, Bool.or_false] at h6
                  subst h6
                  clear h8
                  cases h9 : allB vis8 qu
                  · rw [h9] at HV HS
                    have HE := hideB2 (show urlQ ho pa qu po true = false by rw [HS]; simp)
                    clear h9 HS HUQ
                    go_enter Tryz.func62, Tryz.ntmps62
                    go_wp2
                    generalize hW0 : w.alloc (.cells #[.string ho, .int .i64 po, .string pa, .string qu, .bool true] 38) = W at *
                    clear hW0
                    obtain ⟨p0, p1, p2, p3, p4⟩ := A1.out.u5
                    have z0 := fun V => grw_some p0 V
                    have z1 := fun V => grw_some p1 V
                    have z2 := fun V => grw_some p2 V
                    have z3 := fun V => grw_some p3 V
                    have z4 := fun V => grw_some p4 V
                    clear p0 p1 p2 p3 p4
                    refine wp_region_grow ?_ ?_ ?_
                    · kernel_rfl
                    · kernel_rfl
                    · intro hne0
                      repeat (go_big_quiet_step ((first | (go_at_call 105; exact grow_call (HH.out _)) | (go_at_call 22; exact grow_call (HCP.out _)))))
                      refine wpQuiet_nil ?_
                      rintro _ ⟨V, rfl⟩
                      have HBV := hideB2 (below_then HB.out (grw_below W V))
                      have A2 := A1.out.later (grw_below W V)
                      clear z0 z1 z2 z3 z4 A1
                      generalize grw W V = w3 at *
                      obtain ⟨p0, p1, p2, p3, p4⟩ := A2.u5
                      have z0 := fun V => grw_some p0 V
                      have z1 := fun V => grw_some p1 V
                      have z2 := fun V => grw_some p2 V
                      have z3 := fun V => grw_some p3 V
                      have z4 := fun V => grw_some p4 V
                      have HA2 := hideB2 A2
                      clear p0 p1 p2 p3 p4 A2
                      go_wp2
                      refine wp_region_grow ?_ ?_ ?_
                      · kernel_rfl
                      · kernel_rfl
                      · intro hne1
                        repeat (go_big_quiet_step ((first | (go_at_call 57; exact grow_same (HV.out _)) | (go_at_call 60; exact grow_same (HU.out _)))))
                        refine wpQuiet_nil ?_
                        rintro _ ⟨V2, rfl⟩
                        have HB4 := hideB2 (below_then HBV.out (grw_below w3 V2))
                        have A3 := HA2.out.later (grw_below w3 V2)
                        clear z0 z1 z2 z3 z4 HA2
                        generalize grw w3 V2 = w4 at *
                        obtain ⟨p0, p1, p2, p3, p4⟩ := A3.u5
                        clear A3
                        go_wp2
                        go_ret
                        exact ⟨ret_bool HE.out, HB4.out⟩
                  · rw [h9] at HV HS
                    rw [Bool.true_and] at HS
                    clear h9
                    cases h10 : decide (idxS 35 qu < 0)
                    · rw [h10] at HS HUQ
                      have HE := hideB2 (show urlQ ho pa qu po true = false by rw [HS]; simp)
                      have h11 : ((uptS 35 qu).toList == qu.toList) = false := HUQ
                      clear h10 HS HUQ
                      generalize uptS 35 qu = uq at *
                      go_enter Tryz.func62, Tryz.ntmps62
                      go_wp2
                      generalize hW0 : w.alloc (.cells #[.string ho, .int .i64 po, .string pa, .string qu, .bool true] 38) = W at *
                      clear hW0
                      obtain ⟨p0, p1, p2, p3, p4⟩ := A1.out.u5
                      have z0 := fun V => grw_some p0 V
                      have z1 := fun V => grw_some p1 V
                      have z2 := fun V => grw_some p2 V
                      have z3 := fun V => grw_some p3 V
                      have z4 := fun V => grw_some p4 V
                      clear p0 p1 p2 p3 p4
                      refine wp_region_grow ?_ ?_ ?_
                      · kernel_rfl
                      · kernel_rfl
                      · intro hne0
                        repeat (go_big_quiet_step ((first | (go_at_call 105; exact grow_call (HH.out _)) | (go_at_call 22; exact grow_call (HCP.out _)))))
                        refine wpQuiet_nil ?_
                        rintro _ ⟨V, rfl⟩
                        have HBV := hideB2 (below_then HB.out (grw_below W V))
                        have A2 := A1.out.later (grw_below W V)
                        clear z0 z1 z2 z3 z4 A1
                        generalize grw W V = w3 at *
                        obtain ⟨p0, p1, p2, p3, p4⟩ := A2.u5
                        have z0 := fun V => grw_some p0 V
                        have z1 := fun V => grw_some p1 V
                        have z2 := fun V => grw_some p2 V
                        have z3 := fun V => grw_some p3 V
                        have z4 := fun V => grw_some p4 V
                        have HA2 := hideB2 A2
                        clear p0 p1 p2 p3 p4 A2
                        go_wp2
                        refine wp_region_grow ?_ ?_ ?_
                        · kernel_rfl
                        · kernel_rfl
                        · intro hne1
                          repeat (go_big_quiet_step ((first | (go_at_call 57; exact grow_same (HV.out _)) | (go_at_call 60; exact grow_same (HU.out _)))))
                          refine wpQuiet_nil ?_
                          rintro _ ⟨V2, rfl⟩
                          have HB4 := hideB2 (below_then HBV.out (grw_below w3 V2))
                          have A3 := HA2.out.later (grw_below w3 V2)
                          clear z0 z1 z2 z3 z4 HA2
                          generalize grw w3 V2 = w4 at *
                          obtain ⟨p0, p1, p2, p3, p4⟩ := A3.u5
                          clear A3
                          go_wp2
                          go_ret
                          exact ⟨ret_bool HE.out, HB4.out⟩
                    · rw [h10] at HS HUQ
                      rw [Bool.true_and] at HS
                      have HE := hideB2 (show urlQ ho pa qu po true = decide (((utxt ho pa qu po true).size : Int) ≤ 200) by rw [HS]; apply decide_eq_decide.2; omega)
                      have h11 : ((uptS 35 qu).toList == qu.toList) = true := HUQ
                      clear h10 HS HUQ
                      generalize uptS 35 qu = uq at *
                      generalize utxt ho pa qu po true = T at *
                      go_enter Tryz.func62, Tryz.ntmps62
                      go_wp2
                      generalize hW0 : w.alloc (.cells #[.string ho, .int .i64 po, .string pa, .string qu, .bool true] 38) = W at *
                      clear hW0
                      obtain ⟨p0, p1, p2, p3, p4⟩ := A1.out.u5
                      have z0 := fun V => grw_some p0 V
                      have z1 := fun V => grw_some p1 V
                      have z2 := fun V => grw_some p2 V
                      have z3 := fun V => grw_some p3 V
                      have z4 := fun V => grw_some p4 V
                      clear p0 p1 p2 p3 p4
                      refine wp_region_grow ?_ ?_ ?_
                      · kernel_rfl
                      · kernel_rfl
                      · intro hne0
                        repeat (go_big_quiet_step ((first | (go_at_call 105; exact grow_call (HH.out _)) | (go_at_call 22; exact grow_call (HCP.out _)))))
                        refine wpQuiet_nil ?_
                        rintro _ ⟨V, rfl⟩
                        have HBV := hideB2 (below_then HB.out (grw_below W V))
                        have A2 := A1.out.later (grw_below W V)
                        clear z0 z1 z2 z3 z4 A1
                        generalize grw W V = w3 at *
                        obtain ⟨p0, p1, p2, p3, p4⟩ := A2.u5
                        have z0 := fun V => grw_some p0 V
                        have z1 := fun V => grw_some p1 V
                        have z2 := fun V => grw_some p2 V
                        have z3 := fun V => grw_some p3 V
                        have z4 := fun V => grw_some p4 V
                        have HA2 := hideB2 A2
                        clear p0 p1 p2 p3 p4 A2
                        go_wp2
                        refine wp_region_grow ?_ ?_ ?_
                        · kernel_rfl
                        · kernel_rfl
                        · intro hne1
                          repeat (go_big_quiet_step ((first | (go_at_call 57; exact grow_same (HV.out _)) | (go_at_call 60; exact grow_same (HU.out _)))))
                          refine wpQuiet_nil ?_
                          rintro _ ⟨V2, rfl⟩
                          have HB4 := hideB2 (below_then HBV.out (grw_below w3 V2))
                          have A3 := HA2.out.later (grw_below w3 V2)
                          clear z0 z1 z2 z3 z4 HA2
                          generalize grw w3 V2 = w4 at *
                          obtain ⟨p0, p1, p2, p3, p4⟩ := A3.u5
                          clear A3
                          go_wp2_with (go_at_call 82; refine (HX.out _).mono ?_; rintro e w5 ⟨rfl, hb5⟩)
                          go_ret
                          exact ⟨ret_bool HE.out, below_then HB4.out hb5⟩
                · have h8' := h8
                  rw [eqB_nilU] at h8'
                  rw [h8, Bool.true_or, Bool.true_and] at HS
                  have hqe := eqB_iff.1 h8
                  have h10 : decide (idxS 35 qu < 0) = true := by rw [hqe]; rfl
                  rw [h10] at HS HUQ
                  rw [Bool.true_and] at HS
                  have HE := hideB2 (show urlQ ho pa qu po hq = decide (((utxt ho pa qu po hq).size : Int) ≤ 200) by rw [HS]; apply decide_eq_decide.2; omega)
                  have h11 : ((uptS 35 qu).toList == qu.toList) = true := HUQ
                  clear h10 HS HUQ hqe h8
                  generalize uptS 35 qu = uq at *
                  generalize utxt ho pa qu po hq = T at *
                  clear h6
                  cases hq
                  · have h12 : qu.toList.isEmpty = true := h8'
                    go_enter Tryz.func62, Tryz.ntmps62
                    go_wp2
                    generalize hW0 : w.alloc (.cells #[.string ho, .int .i64 po, .string pa, .string qu, .bool false] 38) = W at *
                    clear hW0
                    obtain ⟨p0, p1, p2, p3, p4⟩ := A1.out.u5
                    have z0 := fun V => grw_some p0 V
                    have z1 := fun V => grw_some p1 V
                    have z2 := fun V => grw_some p2 V
                    have z3 := fun V => grw_some p3 V
                    have z4 := fun V => grw_some p4 V
                    clear p0 p1 p2 p3 p4
                    refine wp_region_grow ?_ ?_ ?_
                    · kernel_rfl
                    · kernel_rfl
                    · intro hne0
                      repeat (go_big_quiet_step ((first | (go_at_call 105; exact grow_call (HH.out _)) | (go_at_call 22; exact grow_call (HCP.out _)))))
                      refine wpQuiet_nil ?_
                      rintro _ ⟨V, rfl⟩
                      have HBV := hideB2 (below_then HB.out (grw_below W V))
                      have A2 := A1.out.later (grw_below W V)
                      clear z0 z1 z2 z3 z4 A1
                      generalize grw W V = w3 at *
                      obtain ⟨p0, p1, p2, p3, p4⟩ := A2.u5
                      have z0 := fun V => grw_some p0 V
                      have z1 := fun V => grw_some p1 V
                      have z2 := fun V => grw_some p2 V
                      have z3 := fun V => grw_some p3 V
                      have z4 := fun V => grw_some p4 V
                      have HA2 := hideB2 A2
                      clear p0 p1 p2 p3 p4 A2
                      go_wp2
                      refine wp_region_grow ?_ ?_ ?_
                      · kernel_rfl
                      · kernel_rfl
                      · intro hne1
                        repeat (go_big_quiet_step ((first | (go_at_call 57; exact grow_same (HV.out _)) | (go_at_call 60; exact grow_same (HU.out _)))))
                        refine wpQuiet_nil ?_
                        rintro _ ⟨V2, rfl⟩
                        have HB4 := hideB2 (below_then HBV.out (grw_below w3 V2))
                        have A3 := HA2.out.later (grw_below w3 V2)
                        clear z0 z1 z2 z3 z4 HA2
                        generalize grw w3 V2 = w4 at *
                        obtain ⟨p0, p1, p2, p3, p4⟩ := A3.u5
                        clear A3
                        go_wp2_with (go_at_call 82; refine (HX.out _).mono ?_; rintro e w5 ⟨rfl, hb5⟩)
                        go_ret
                        exact ⟨ret_bool HE.out, below_then HB4.out hb5⟩
                  · have h12 : qu.toList.isEmpty = true := h8'
                    go_enter Tryz.func62, Tryz.ntmps62
                    go_wp2
                    generalize hW0 : w.alloc (.cells #[.string ho, .int .i64 po, .string pa, .string qu, .bool true] 38) = W at *
                    clear hW0
                    obtain ⟨p0, p1, p2, p3, p4⟩ := A1.out.u5
                    have z0 := fun V => grw_some p0 V
                    have z1 := fun V => grw_some p1 V
                    have z2 := fun V => grw_some p2 V
                    have z3 := fun V => grw_some p3 V
                    have z4 := fun V => grw_some p4 V
                    clear p0 p1 p2 p3 p4
                    refine wp_region_grow ?_ ?_ ?_
                    · kernel_rfl
                    · kernel_rfl
                    · intro hne0
                      repeat (go_big_quiet_step ((first | (go_at_call 105; exact grow_call (HH.out _)) | (go_at_call 22; exact grow_call (HCP.out _)))))
                      refine wpQuiet_nil ?_
                      rintro _ ⟨V, rfl⟩
                      have HBV := hideB2 (below_then HB.out (grw_below W V))
                      have A2 := A1.out.later (grw_below W V)
                      clear z0 z1 z2 z3 z4 A1
                      generalize grw W V = w3 at *
                      obtain ⟨p0, p1, p2, p3, p4⟩ := A2.u5
                      have z0 := fun V => grw_some p0 V
                      have z1 := fun V => grw_some p1 V
                      have z2 := fun V => grw_some p2 V
                      have z3 := fun V => grw_some p3 V
                      have z4 := fun V => grw_some p4 V
                      have HA2 := hideB2 A2
                      clear p0 p1 p2 p3 p4 A2
                      go_wp2
                      refine wp_region_grow ?_ ?_ ?_
                      · kernel_rfl
                      · kernel_rfl
                      · intro hne1
                        repeat (go_big_quiet_step ((first | (go_at_call 57; exact grow_same (HV.out _)) | (go_at_call 60; exact grow_same (HU.out _)))))
                        refine wpQuiet_nil ?_
                        rintro _ ⟨V2, rfl⟩
                        have HB4 := hideB2 (below_then HBV.out (grw_below w3 V2))
                        have A3 := HA2.out.later (grw_below w3 V2)
                        clear z0 z1 z2 z3 z4 HA2
                        generalize grw w3 V2 = w4 at *
                        obtain ⟨p0, p1, p2, p3, p4⟩ := A3.u5
                        clear A3
                        go_wp2_with (go_at_call 82; refine (HX.out _).mono ?_; rintro e w5 ⟨rfl, hb5⟩)
                        go_ret
                        exact ⟨ret_bool HE.out, below_then HB4.out hb5⟩
        · have HE := hideB2 (show urlQ ho pa qu po hq = false by unfold urlQ; rw [h4]; simp)
          rw [h1] at HH
          rw [eqB_nilU] at h4
          clear h1
          go_enter Tryz.func62, Tryz.ntmps62
          go_wp2
          generalize hW0 : w.alloc (.cells #[.string ho, .int .i64 po, .string pa, .string qu, .bool hq] 38) = W at *
          clear hW0
          obtain ⟨p0, p1, p2, p3, p4⟩ := A1.out.u5
          have z0 := fun V => grw_some p0 V
          have z1 := fun V => grw_some p1 V
          have z2 := fun V => grw_some p2 V
          have z3 := fun V => grw_some p3 V
          have z4 := fun V => grw_some p4 V
          clear p0 p1 p2 p3 p4
          refine wp_region_grow ?_ ?_ ?_
          · kernel_rfl
          · kernel_rfl
          · intro hne0
            repeat (go_big_quiet_step ((first | (go_at_call 105; exact grow_call (HH.out _)) | (go_at_call 22; exact grow_call (HCP.out _)))))
            refine wpQuiet_nil ?_
            rintro _ ⟨V, rfl⟩
            have HBV := hideB2 (below_then HB.out (grw_below W V))
            generalize grw W V = w3 at *
            go_wp2
            go_ret
            exact ⟨ret_bool HE.out, HBV.out⟩
set_option maxHeartbeats 2000000 in
theorem sUrlText_any (ho pa qu : ByteArray) (po : Int) (hq : Bool) (w : World) (hho : ho.size ≤ 1048576) (hpa : pa.size ≤ 1048576) (hqu : qu.size ≤ 1048576) :
    Calls Tryz.prog 39 #[.agg #[.string ho, .int .i64 po, .string pa, .string qu, .bool hq]] w fun e w' => e = .returned (.string (textB ho pa qu po hq)) ∧ Below w.heap.size w w' := by
  have HB := hideB2 (below_a1 w (.cells #[.string ho, .int .i64 po, .string pa, .string qu, .bool hq] 38))
  have A1 := hideB2 (Blk.new w #[.string ho, .int .i64 po, .string pa, .string qu, .bool hq] 38)
  have HU := hideB2 (fun W => sUrlOk_any ho pa qu po hq W hho hpa hqu)
  have HX := hideB2 (fun W => l7text_any ho pa qu po hq W hho hpa hqu)
  unfold textB
  generalize utxt ho pa qu po hq = T at *
  cases hh : urlQ ho pa qu po hq
  · rw [hh] at HU
    rw [if_neg (by simp)]
    clear hh
    go_enter Tryz.func39, Tryz.ntmps39
    go_wp2_with (go_at_call 62; refine (HU.out _).mono ?_; rintro e w1 ⟨rfl, hb1⟩)
    go_ret
    exact ⟨rfl, below_then HB.out hb1⟩
  · rw [hh] at HU
    rw [if_pos rfl]
    clear hh
    go_enter Tryz.func39, Tryz.ntmps39
    go_wp2_with (first
      | (go_at_call 62; refine (HU.out _).mono ?_; rintro e w1 ⟨rfl, hb1⟩; obtain ⟨p0, p1, p2, p3, p4⟩ := (A1.out.later hb1).u5)
      | (go_at_call 82; refine (HX.out _).mono ?_; rintro e w2 ⟨rfl, hb2⟩))
    go_ret
    exact ⟨rfl, below_then (below_then HB.out hb1) hb2⟩
end Go.Proofs.YtmhohponikolfaaGreatDoor
namespace Go.Proofs.YtmhohponikolfaaGreatDoor
set_option linter.unusedVariables false
set_option linter.unusedSimpArgs false
open Go.RowKit
/-- The pieces from the last to the first, with a byte between. -/
def turnB (h : ByteArray) (c d : UInt8) : ByteArray := joinS d (splS c h).reverse
theorem sumS_app (a b : List ByteArray) : sumS (a ++ b) = sumS a + sumS b := by
  unfold sumS; rw [List.map_append, List.sum_append]
theorem sumS_rev (l : List ByteArray) : sumS l.reverse = sumS l := by
  unfold sumS; rw [List.map_reverse, List.sum_reverse]
theorem turnB_size (h : ByteArray) (c d : UInt8) : (turnB h c d).size ≤ 2 * h.size + 1 := by
  have h1 := joinS_size d (splS c h).reverse
  have h2 := splS_le c h
  rw [List.length_reverse, sumS_rev] at h1
  unfold turnB
  omega
theorem setCells_row (g : Nat) (t : TypeId) : ∀ (vs : List Value) (o : Nat) (w : World) (cur : Array Value), w.heap[g]? = some (.cells cur t (0, 0)) → o + vs.length ≤ cur.size → (w.setCells g o vs).heap[g]? = some (.cells (cur.toList.take o ++ vs ++ cur.toList.drop (o + vs.length)).toArray t (0, 0))
  | [], o, w, cur, h, hl => by
    show w.heap[g]? = _
    rw [h]
    simp
  | v :: r, o, w, cur, h, hl => by
    have hb : Blk w g cur t := h
    have h1 : (w.setCell ⟨g, o, none⟩ v).heap[g]? = some (.cells (cur.setIfInBounds o v) t (0, 0)) := hb.set o v
    have hlen : o < cur.toList.length := by simp at hl ⊢; omega
    have ih := setCells_row g t r (o + 1) (w.setCell ⟨g, o, none⟩ v) _ h1 (by simp at hl ⊢; omega)
    show ((w.setCell ⟨g, o, none⟩ v).setCells g (o + 1) r).heap[g]? = _
    rw [ih]
    congr 3
    rw [Array.toList_setIfInBounds]
    rw [List.take_succ_eq_append_getElem (by rw [List.length_set]; exact hlen), List.getElem_set_self, List.take_set_of_le (Nat.le_refl _), List.drop_set_of_lt (by omega)]
    simp [Nat.add_assoc, Nat.add_comm 1]
theorem below_setCells {B g : Nat} {w0 : World} : ∀ {w : World}, Below B w0 w → B ≤ g → ∀ (vs : List Value) (o : Nat), Below B w0 (w.setCells g o vs)
  | _, h, _, [], _ => h
  | _, h, hg, v :: r, o => below_setCells (h.setCell (p := ⟨g, o, none⟩) hg v) hg r (o + 1)
theorem Reverse_any (w0 w : World) (v : Value) (l : List ByteArray) (hb : BufS w0 w v l) (hl : l.length ≤ 1048577) (hne : l ≠ []) :
    Calls Tryz.prog 123 #[v] w fun e w' => e = .returned (.tuple #[]) ∧ BufS w0 w' v l.reverse := by
  obtain ⟨g, cap, rfl, hg, hlt, hc⟩ := hb.cells (List.length_pos_iff.2 hne)
  rcases hb.own.2 with ⟨h1, _⟩ | ⟨g', cap', cur, h1, _, hh, hcap, hmx, hcs, ht⟩
  · cases h1
  · injection h1 with e1 e2 e3
    injection e1 with e1
    injection e1 with e1
    subst e1 e3
    have hf : ∀ j, j < l.length → w.frozen? ⟨g, 0 + j, none⟩ = false := fun j hj => (show Blk w g cur 9 from hh).free _
    have h := Any.slices_Reverse_string_cells Tryz.laysRev g 0 l.length cap (fun i => l.getD i ⟨#[]⟩) w (by omega) (fun i hi => by rw [Nat.zero_add]; exact hc i hi) hf
    refine h.mono ?_
    rintro e w' ⟨rfl, q, rfl⟩
    refine ⟨rfl, ?_⟩
    have hst : (Lib.strsOf (fun i => l.getD i ⟨#[]⟩) l.length).reverse.map encStr = l.reverse.map Value.string := by
      have e : Lib.strsOf (fun i => l.getD i ⟨#[]⟩) l.length = l.map (·.data.toList) := by
        apply List.ext_getElem
        · rw [Lib.strsOf_length, List.length_map]
        · intro i h1 h2
          rw [List.length_map] at h2
          unfold Lib.strsOf
          simp [List.getElem?_eq_getElem h2]
      rw [e, ← List.map_reverse, List.map_map]
      apply List.map_congr_left
      intro x _
      rfl
    rw [hst]
    have hlr : (l.reverse.map Value.string).length = l.length := by simp
    have hrow := setCells_row g 9 (l.reverse.map Value.string) 0 (w.drewN q) cur hh (by rw [hlr]; omega)
    refine ⟨below_setCells (below_drewN hb.below q) hg _ 0, by simp, .inr ⟨g, cap, _, by rw [List.length_reverse], hg, hrow, by rw [List.length_reverse]; exact hcap, hmx, ?_, ?_⟩⟩
    · simp
      have : cur.size = cap * 1 := hcs
      omega
    · simp
set_option maxHeartbeats 2000000 in
theorem turnedHost_any (h : ByteArray) (c d : UInt8) (w : World) (hs : h.size ≤ 1048576) :
    Calls Tryz.prog 83 #[.string h, .string ⟨#[c]⟩, .string ⟨#[d]⟩] w fun e w' => e = .returned (.string (turnB h c d)) ∧ Below w.heap.size w w' := by
  have HSP := hideB2 (fun W => SplitS_any h c W hs)
  have hls := (splS_le c h)
  have hne := splS_ne c h
  have hz := turnB_size h c d
  unfold turnB at hz ⊢
  generalize splS c h = L at *
  have HRV := hideB2 (fun w0 w1 v (hb : BufS w0 w1 v L) => Reverse_any w0 w1 v L hb (by omega) hne)
  have HJ := hideB2 (fun w0 w1 v (hb : BufS w0 w1 v L.reverse) => JoinS_any w0 w1 v d _ hb (by rw [List.length_reverse]; omega) (by omega))
  clear hls hne hz
  generalize L.reverse = LR at *
  generalize joinS d LR = R at *
  go_enter Tryz.func83, Tryz.ntmps83
  go_wp2_with (first | (go_at_call 53; refine (HSP.out _).mono ?_; rintro e w5 ⟨v5, rfl, hb5⟩) | (go_at_call 123; refine (HRV.out _ _ _ hb5).mono ?_; rintro e w6 ⟨rfl, hb6⟩) | (go_at_call 55; refine (HJ.out _ _ _ hb6).mono ?_; rintro e w7 ⟨rfl, hb7⟩))
  go_ret
  exact ⟨rfl, below_then hb6.below hb7⟩
/-- The same, as the specification puts it together: no byte ahead while there is nothing. -/
def trnS (d : UInt8) (s x : ByteArray) : ByteArray := (if s.size = 0 then s else s ++ (⟨#[d]⟩ : ByteArray)) ++ x
def trnF (d : UInt8) (l : List ByteArray) : ByteArray := l.foldl (trnS d) ⟨#[]⟩
theorem trnF_snoc (d : UInt8) (l : List ByteArray) (x : ByteArray) : trnF d (l ++ [x]) = trnS d (trnF d l) x := by simp [trnF]
theorem trnF_from (d : UInt8) : ∀ (l : List ByteArray) (s : ByteArray), s.size ≠ 0 → l.foldl (trnS d) s = s ++ (⟨(tailS d l).toArray⟩ : ByteArray)
  | [], s, _ => by rw [List.foldl_nil]; exact (bytes_nil_right s).symm
  | x :: r, s, h => by
    rw [List.foldl_cons]
    have e : trnS d s x = (s ++ (⟨#[d]⟩ : ByteArray)) ++ x := by unfold trnS; rw [if_neg h]
    rw [e, trnF_from d r _ (by rw [ByteArray.size_append, ByteArray.size_append]; omega)]
    apply bytes_ext
    rw [Go.Joins.data_append, Go.Joins.data_append, Go.Joins.data_append, Go.Joins.data_append]
    show _ = s.data.toList ++ tailS d (x :: r)
    rw [tailS_cons]
    simp
theorem trnF_join (d : UInt8) (x : ByteArray) (r : List ByteArray) (h : x.size ≠ 0) : trnF d (x :: r) = joinS d (x :: r) := by
  unfold trnF
  rw [List.foldl_cons]
  have e : trnS d ⟨#[]⟩ x = x := by unfold trnS; rw [if_pos (show (⟨#[]⟩ : ByteArray).size = 0 from rfl)]; exact bytes_nil_left x
  rw [e, trnF_from d r x h]
  apply bytes_ext
  have h2 := joinS_tail d x r
  rw [tailS_cons] at h2
  rw [Go.Joins.data_append]
  show x.data.toList ++ tailS d r = _
  injection h2 with _ h2
  exact h2.symm
theorem trnF_size (d : UInt8) (l : List ByteArray) : (trnF d l).size ≤ l.length + sumS l := by
  refine snoc_ind (p := fun l => (trnF d l).size ≤ l.length + sumS l) ?_ ?_ l
  · show (0 : Nat) ≤ _; omega
  · intro q x ih
    rw [trnF_snoc]
    have e : sumS (q ++ [x]) = sumS q + x.size := by simp [sumS]
    rw [List.length_append, List.length_singleton, e]
    unfold trnS
    split
    · rw [ByteArray.size_append]; omega
    · rw [ByteArray.size_append, ByteArray.size_append]
      have e1 : (⟨#[d]⟩ : ByteArray).size = 1 := rfl
      omega
def turnS (h : ByteArray) (c d : UInt8) : ByteArray := trnF d (splS c h).reverse
end Go.Proofs.YtmhohponikolfaaGreatDoor
namespace Go.Proofs.YtmhohponikolfaaGreatDoor
set_option linter.unusedVariables false
set_option linter.unusedSimpArgs false
open Go.RowKit
def surtB (ho pa qu : ByteArray) (po : Int) (hq : Bool) : ByteArray := if urlQ ho pa qu po hq = true then ((((turnB ho 46 44 ++ portB po) ++ (⟨#[41]⟩ : ByteArray)) ++ pa) ++ qryB qu hq) else ⟨#[]⟩
theorem size_nil {x : ByteArray} (h : x.size = 0) : x = ⟨#[]⟩ := by
  apply bytes_ext
  exact List.eq_nil_of_length_eq_zero (by rw [len_data]; exact h)
theorem turnS_ok (h : ByteArray) (d : UInt8) (hq : hostQ h = true) : turnS h 46 d = turnB h 46 d := by
  unfold turnS turnB
  have hp : (splS 46 h).any (fun x => eqB x ⟨#[]⟩) = false := by
    unfold hostQ at hq
    rw [Bool.and_eq_true] at hq
    simpa using hq.2
  cases hr : (splS 46 h).reverse with
  | nil => rfl
  | cons x r =>
    refine trnF_join d x r ?_
    intro h0
    rw [List.any_eq_false] at hp
    have hm : x ∈ splS 46 h := by
      have : x ∈ (splS 46 h).reverse := by rw [hr]; exact List.mem_cons_self
      exact List.mem_reverse.1 this
    exact hp x hm (by rw [size_nil h0]; exact eqB_self _)
set_option maxRecDepth 100000 in
set_option maxHeartbeats 4000000 in
theorem Surt_any (ho pa qu : ByteArray) (po : Int) (hq : Bool) (w : World) (htab : Tab10 w) (hho : ho.size ≤ 1048576) (hpa : pa.size ≤ 1048576) (hqu : qu.size ≤ 1048576) :
    Calls Tryz.prog 40 #[.agg #[.string ho, .int .i64 po, .string pa, .string qu, .bool hq]] w fun e w' => e = .returned (.string (surtB ho pa qu po hq)) ∧ Below w.heap.size w w' := by
  have HB := hideB2 (below_a1 w (.cells #[.string ho, .int .i64 po, .string pa, .string qu, .bool hq] 38))
  have A1 := hideB2 (Blk.new w #[.string ho, .int .i64 po, .string pa, .string qu, .bool hq] 38)
  have HT := hideB2 (tab_later htab HB.out)
  have HU := hideB2 (fun W h => UrlOk_any ho pa qu po hq W h hho hpa hqu)
  have HTU := hideB2 (fun W => turnedHost_any ho 46 44 W hho)
  have HP := hideB2 (fun W h => portText_any ho pa qu po hq W h )
  have HQ := hideB2 (fun W => queryText_any ho pa qu po hq W hqu)
  have hz1 := portB_size po
  have hz2 := qryB_size qu hq
  clear htab
  cases hh : urlQ ho pa qu po hq
  · have HE := hideB2 (show surtB ho pa qu po hq = ⟨#[]⟩ by unfold surtB; rw [hh]; rfl)
    rw [hh] at HU
    clear hh
    go_enter Tryz.func40, Tryz.ntmps40
    go_wp2_with (go_at_call 47; refine (HU.out _ HT.out).mono ?_; rintro e w1 ⟨rfl, hb1⟩)
    go_ret
    exact ⟨ret_str HE.out, below_then HB.out hb1⟩
  · have HE := hideB2 (show surtB ho pa qu po hq = ((((turnB ho 46 44 ++ portB po) ++ (⟨#[41]⟩ : ByteArray)) ++ pa) ++ qryB qu hq) by unfold surtB; rw [hh]; rfl)
    rw [hh] at HU
    have hz3 := turnB_size ho 46 44
    generalize surtB ho pa qu po hq = R at *
    generalize turnB ho 46 44 = T at *
    generalize portB po = P at *
    generalize qryB qu hq = Q at *
    have hs0 : (⟨#[41]⟩ : ByteArray).size = 1 := rfl
    have hs1 : (T ++ P).size ≤ 2097200 := by rw [ByteArray.size_append]; omega
    have hs2 : ((T ++ P) ++ (⟨#[41]⟩ : ByteArray)).size ≤ 2097201 := by rw [ByteArray.size_append]; omega
    have hs3 : (((T ++ P) ++ (⟨#[41]⟩ : ByteArray)) ++ pa).size ≤ 3145800 := by rw [ByteArray.size_append]; omega
    clear hh
    go_enter Tryz.func40, Tryz.ntmps40
    go_wp2_with fail
    refine (HU.out _ HT.out).mono ?_
    rintro e w1 ⟨rfl, hb1⟩
    have HB1 := hideB2 (below_then HB.out hb1)
    have HT1 := hideB2 (tab_later HT.out hb1)
    obtain ⟨p0, p1, p2, p3, p4⟩ := (A1.out.later hb1).u5
    clear hb1 HB A1
    have z0 := fun V => grw_some p0 V
    have z1 := fun V => grw_some p1 V
    have z2 := fun V => grw_some p2 V
    have z3 := fun V => grw_some p3 V
    have z4 := fun V => grw_some p4 V
    have HTV := hideB2 (fun V : Gr w1 => tab_later HT1.out (grw_below w1 V))
    clear p0 p1 p2 p3 p4
    go_wp2
    refine wp_region_grow ?_ ?_ ?_
    · kernel_rfl
    · kernel_rfl
    · intro hne0
      repeat (go_big_quiet_step ((first | (go_at_call 83; exact grow_call (HTU.out _)) | (go_at_call 84; exact grow_call (HP.out _ (HTV.out _))) | (go_at_call 85; exact grow_call (HQ.out _)))))
      refine wpQuiet_nil ?_
      rintro _ ⟨V, rfl⟩
      have HBV := hideB2 (below_then HB1.out (grw_below w1 V))
      generalize grw w1 V = w3 at *
      go_wp2
      go_ret
      exact ⟨ret_str HE.out, HBV.out⟩
end Go.Proofs.YtmhohponikolfaaGreatDoor
