/-
  The drawing functions of chapter 4: a store that is one.
-/
import Derived.Test.YtknpolmenfdheaaDoorGL
import Derived.Test.YtknpolmenfdheaaDoorD19
import Derived.BigRegion
import Derived.Deep.RegionWith
namespace Go.Proofs.YtknpolmenfdheaaDoor
set_option linter.unusedVariables false
set_option linter.unusedSimpArgs false
open Go.RowKit
theorem Blk.kp {p : Nat} {w w' : World} {b : Nat} {c : Array Value} {t : TypeId} (h : Blk w b c t) (k : Kp p w w') (hne : b ≠ p) : Blk w' b c t := by
  unfold Blk at *
  rw [k.block b (Array.getElem?_eq_some_iff.1 h).1 (fun e => by injection e with e; omega)]
  exact h
theorem GB.kp {p : Nat} {w w' : World} {g cap : Nat} {l : List Sg} (h : GB w g cap l) (k : Kp p w w') (hne : g ≠ p) : GB w' g cap l := by
  have hl := h.lt
  obtain ⟨cur, hg, r⟩ := h
  exact ⟨cur, by rw [k.block g hl (fun e => by injection e with e; omega)]; exact hg, r⟩
theorem RowG.kp {p : Nat} {w w' : World} {g : Nat} {l : List Sg} (h : RowG w g l) (k : Kp p w w') (hne : g ≠ p) : RowG w' g l := by
  have hb : w'.heap[g]? = w.heap[g]? := k.block g h.lt (fun e => by injection e with e; omega)
  refine ⟨fun j hj => ?_, fun j hj => ?_, fun j => ?_, Nat.lt_of_lt_of_le h.lt k.size⟩
  · exact (World.cell?_of_block (w := w) hb).trans (h.dat j hj)
  · exact (World.cell?_of_block (w := w) hb).trans (h.saf j hj)
  · have hf := h.free j
    unfold World.frozen? at *
    rw [hb]; exact hf
/-- A store that is drawn: it lies in the variable at q; the result's place is w.heap.size. -/
structure DS (p : Nat) (w wr : World) (q : Nat) (l : List Sg) (c : Int) (g cap : Nat) : Prop where
  blk : Blk wr q #[.slice (some ⟨g, 0, none⟩) l.length cap, .int .i64 c] 25
  row : GB wr g cap l
  ge : w.heap.size ≤ g
  qge : w.heap.size < q
  st : Drw wr p
  kp : Kp p w wr
  plt : p < w.heap.size
  res : Blk wr w.heap.size #[.slice none 0 0, .int .i64 0] 25
theorem DS.later {p : Nat} {w wr w' : World} {q : Nat} {l : List Sg} {c : Int} {g cap : Nat} (h : DS p w wr q l c g cap) (b : Below wr.heap.size wr w') : DS p w w' q l c g cap :=
  ⟨h.blk.later b, h.row.later b, h.ge, h.qge, h.st.kept b, h.kp.trans (Kp.of_below b), h.plt, h.res.later b⟩
theorem DS.draw {p : Nat} {w wr w' : World} {q : Nat} {l : List Sg} {c : Int} {g cap : Nat} (h : DS p w wr q l c g cap) (k : Kp p wr w') (d : Drw w' p) : DS p w w' q l c g cap := by
  have := h.plt
  have := h.ge
  have := h.qge
  exact ⟨h.blk.kp k (by omega), h.row.kp k (by omega), h.ge, h.qge, d, h.kp.trans k, h.plt, h.res.kp k (by omega)⟩
theorem DS.two {p : Nat} {w wr : World} {q : Nat} {l : List Sg} {c : Int} {g cap b : Nat} {cs : Array Value} (h : DS p w wr q l c g cap) (hb : w.heap.size < b) (hq : b ≠ q) (hB : Blk wr b cs 25) (x y : Value) : DS p w ((wr.setCell ⟨b, 0, none⟩ x).setCell ⟨b, 1, none⟩ y) q l c g cap := by
  have hp := h.plt
  exact ⟨h.blk.oth2 hq _ _, h.row.oth2 (h.row.ne hB store_ne_seg) _ _, h.ge, h.qge, (h.st.setNew (g := b) (by omega) _ _).setNew (g := b) (by omega) _ _, (h.kp.setNew (by omega) _ _).setNew (by omega) _ _, h.plt, h.res.oth2 (by omega) _ _⟩
/-- Another store is laid in the variable. -/
theorem DS.put {p : Nat} {w wr : World} {q : Nat} {l l' : List Sg} {c c' : Int} {g cap g' cap' : Nat} (h : DS p w wr q l c g cap) (hg : w.heap.size ≤ g') (hr : GB wr g' cap' l') : DS p w ((wr.setCell ⟨q, 0, none⟩ (.slice (some ⟨g', 0, none⟩) l'.length cap')).setCell ⟨q, 1, none⟩ (.int .i64 c')) q l' c' g' cap' := by
  have hp := h.plt
  have hq := h.qge
  exact ⟨h.blk.set2 _ _, hr.oth2 (hr.ne h.blk store_ne_seg) _ _, hg, h.qge, (h.st.setNew (g := q) (by omega) _ _).setNew (g := q) (by omega) _ _, (h.kp.setNew (by omega) _ _).setNew (by omega) _ _, h.plt, h.res.oth2 (by omega) _ _⟩
theorem DS.sl {p : Nat} {w wr : World} {q : Nat} {l : List Sg} {c : Int} {g cap : Nat} (h : DS p w wr q l c g cap) : SlG wr (.slice (some ⟨g, 0, none⟩) l.length cap) l := h.row.sl rfl
set_option maxHeartbeats 4000000 in
theorem l4draw_any (p : Nat) (w : World) (hd : Drw w p) :
    Calls Tryd.prog 52 #[.pointer (some ⟨p, 0, none⟩)] w fun e w' => (∃ g cap l c, e = .returned (.agg #[.slice (some ⟨g, 0, none⟩) l.length cap, .int .i64 c]) ∧ storeQ l c = true ∧ w.heap.size ≤ g ∧ GB w' g cap l) ∧ Kp p w w' ∧ Drw w' p := by
  have hplt := hd.lt
  have R0 := Blk.new w #[.slice none 0 0, .int .i64 0] 25
  have ba := below_a1 w (.cells #[.slice none 0 0, .int .i64 0] 25)
  have hd1 := hd.kept ba
  have hk1 : Kp p w (w.alloc (.cells #[.slice none 0 0, .int .i64 0] 25)) := Kp.of_below ba
  clear hd
  go_enter Tryd.func52, Tryd.ntmps52
  go_wp2_with fail
  have hsz1 : (w.alloc (.cells #[.slice none 0 0, .int .i64 0] 25)).heap.size = w.heap.size + 1 := by simp
  rw [← hsz1]
  generalize w.alloc (.cells #[.slice none 0 0, .int .i64 0] 25) = W1 at *
  refine (l1PickInt_of (fun z => 0 ≤ z ∧ z ≤ 60000) p W1.heap.size 5 5 _ (hd1.alloc _) (by omega) ?_ (by omega) (by omega)).mono ?_
  · intro j hj
    rcases j with _ | _ | _ | _ | _ | j
    · exact cell_newP W1 _ _ _ 0 0 rfl (by omega)
    · exact cell_newP W1 _ _ _ 1 10 rfl (by omega)
    · exact cell_newP W1 _ _ _ 2 40 rfl (by omega)
    · exact cell_newP W1 _ _ _ 3 100 rfl (by omega)
    · exact cell_newP W1 _ _ _ 4 60000 rfl (by omega)
    · omega
  rintro e w2 ⟨⟨z, hz, rfl⟩, hk2, hd2⟩
  have hK2 := (hk1.alloc (.cells #[.int .i64 0, .int .i64 10, .int .i64 40, .int .i64 100, .int .i64 60000] 3)).trans hk2
  have R2 := (R0.alloc (.cells #[.int .i64 0, .int .i64 10, .int .i64 40, .int .i64 100, .int .i64 60000] 3)).kp hk2 (by omega)
  clear hk1 hk2 hd1 R0 ba
  go_wp2_with fail
  refine (sStoreNew_yes z _ hz.1 hz.2).mono ?_
  rintro e w3 ⟨g3, rfl, hg3, hgb3, hb3⟩
  have ba3 := below_a1 w3 (.cells #[.slice (some ⟨g3, 0, none⟩) 1 1, .int .i64 z] 25)
  have S3 := Blk.new w3 #[.slice (some ⟨g3, 0, none⟩) 1 1, .int .i64 z] 25
  have hs2 := hK2.size
  have hs3 := hb3.size
  have hr2 := R2.lt
  have D3 : DS p w (w3.alloc (.cells #[.slice (some ⟨g3, 0, none⟩) 1 1, .int .i64 z] 25)) w3.heap.size [sg0] z g3 1 :=
    ⟨S3, hgb3.later ba3, by omega, by omega, (hd2.kept hb3).kept ba3, (hK2.trans (Kp.of_below hb3)).trans (Kp.of_below ba3), hplt, (R2.later hb3).later ba3⟩
  clear S3 hgb3 ba3 R2 hd2 hK2 hg3
  go_wp2_with fail
  generalize hq3 : w3.heap.size = q at *
  generalize w3.alloc (.cells #[.slice (some ⟨g3, 0, none⟩) 1 1, .int .i64 z] 25) = W3 at *
  clear hb3 hq3
  refine (l1Below_any p 14 _ D3.st (by omega)).mono ?_
  rintro e w4 ⟨⟨k4, hk4l, _, _, rfl⟩, hk4, hd4⟩
  have hk14 : (k4 : Int) < 14 := hk4l (by omega)
  have D4 := D3.draw hk4 hd4
  have HQ := hideB2 ((storeQ_one z).2 hz)
  clear D3 hk4 hd4 hk4l hz
  go_wp2
  go_loopw [5] (fun i wr => ∃ (k : Nat) (l : List Sg) (c : Int) (g cap : Nat), i = .int .i64 k ∧ k ≤ 14 ∧ DS p w wr q l c g cap ∧ storeQ l c = true) (fun i _ => (intOf i).toNat)
  case atStart => exact ⟨k4, [sg0], z, g3, 1, rfl, by omega, D4, HQ.out⟩
  case round =>
    obtain ⟨k, l, c, g, cap, rfl, hk, hD, hq⟩ := hrel
    clear D4 HQ
    by_cases h0 : 0 < k
    · have h0i : (0 : Int) < (k : Int) := by omega
      obtain ⟨hc1, hc2, q1, q2, q3, q4⟩ := storeQ_iff.1 hq
      have hlm : l.length ≤ 1048576 := by omega
      have htm : totG l ≤ 1099511627776 := by omega
      have HSYN := hideB2 (syncL_ok hq)
      have HSR := hideB2 (show syncR l c = some (syncL l) by unfold syncR; rw [hq]; rfl)
      have ba := below_a1 wr (.cells #[.slice (some ⟨g, 0, none⟩) l.length cap, .int .i64 c] 25)
      have X0 := Blk.new wr #[.slice (some ⟨g, 0, none⟩) l.length cap, .int .i64 c] 25
      have D1 := hD.later ba
      have hpl := hD.plt
      have hszr := hD.kp.size
      have hqlt := hD.blk.lt
      have hrlt := hD.res.lt
      obtain ⟨p0, p1⟩ := hD.blk.c2
      have HQ := hideB2 hq
      clear hq q3 ba
      go_wp2_with fail
      generalize hX : wr.heap.size = X at *
      generalize wr.alloc (.cells #[.slice (some ⟨g, 0, none⟩) l.length cap, .int .i64 c] 25) = W1 at *
      clear hX hD
      refine (l1Below_any p 5 _ D1.st (by omega)).mono ?_
      rintro e w2 ⟨⟨z, hz, _, _, rfl⟩, hk2, hd2⟩
      have hz5 : (z : Int) < 5 := hz (by omega)
      have D2 := D1.draw hk2 hd2
      have X2 := X0.kp hk2 (by omega)
      clear hz D1 X0 hk2 hd2 p0 p1
      by_cases hz0 : z = 0
      · subst hz0
        obtain ⟨p0, p1⟩ := D2.blk.c2
        go_wp2_with fail
        refine (sSync_any _ l c _ D2.sl hlm htm).mono ?_
        rintro e w3 ⟨r, rfl, ho, hb3⟩
        rw [HSR.out] at ho
        obtain ⟨g', cap', rfl, hg', hgb'⟩ := ho
        have D3 := D2.later hb3
        have X3 := X2.later hb3
        have D4 := D3.two (by omega) (by omega) X3 (.slice (some ⟨g', 0, none⟩) (syncL l).length cap') (.int .i64 c)
        have X4 := X3.set2 (.slice (some ⟨g', 0, none⟩) (syncL l).length cap') (.int .i64 c)
        have G4 := hgb'.oth2 (hgb'.ne X3 store_ne_seg) (.slice (some ⟨g', 0, none⟩) (syncL l).length cap') (.int .i64 c)
        have hsz2 := D2.kp.size
        have HD5 := hideB2 (D4.put (c' := c) (by omega) G4)
        obtain ⟨x0, x1⟩ := X3.c2
        have fx0 := X3.free 0
        have fx1 := X3.free 1
        obtain ⟨y0, y1⟩ := X4.c2
        obtain ⟨s0, s1⟩ := D4.blk.c2
        have fs0 := D4.blk.free 0
        have fs1 := D4.blk.free 1
        clear p0 p1 D2 X2 D3 X3 hgb' hb3 X4 G4 D4
        go_wp2
        exact ⟨⟨k - 1, syncL l, c, g', cap', by go_num, by omega, HD5.out, HSYN.out⟩, by simp [intOf]; omega⟩
      · by_cases hz1 : z = 1
        · subst hz1
          obtain ⟨p0, p1⟩ := D2.blk.c2
          go_wp2_with fail
          refine (sRoll_any _ l c _ D2.sl hlm htm).mono ?_
          rintro e w3 ⟨r, rfl, ho, hb3⟩
          have D3 := D2.later hb3
          have X3 := X2.later hb3
          have hsz2 := D2.kp.size
          obtain ⟨x0, x1⟩ := X3.c2
          have fx0 := X3.free 0
          have fx1 := X3.free 1
          by_cases hc0 : (rollR l c).2 = 0
          · obtain ⟨L, e1, hL⟩ := rollR_some hc0
            rw [e1] at ho
            rw [hc0]
            obtain ⟨g', cap', rfl, hg', hgb'⟩ := ho
            have D4 := D3.two (by omega) (by omega) X3 (.slice (some ⟨g', 0, none⟩) L.length cap') (.int .i64 c)
            have X4 := X3.set2 (.slice (some ⟨g', 0, none⟩) L.length cap') (.int .i64 c)
            have G4 := hgb'.oth2 (hgb'.ne X3 store_ne_seg) (.slice (some ⟨g', 0, none⟩) L.length cap') (.int .i64 c)
            have HD5 := hideB2 (D4.put (c' := c) (by omega) G4)
            have HL := hideB2 hL
            obtain ⟨y0, y1⟩ := X4.c2
            obtain ⟨s0, s1⟩ := D4.blk.c2
            have fs0 := D4.blk.free 0
            have fs1 := D4.blk.free 1
            clear p0 p1 D2 X2 D3 X3 hgb' hb3 X4 G4 D4 hc0 e1 hL
            go_wp2
            exact ⟨⟨k - 1, L, c, g', cap', by go_num, by omega, HD5.out, HL.out⟩, by simp [intOf]; omega⟩
          · rw [rollR_no hc0] at ho
            have hcb : ((rollR l c).2 == 0) = false := by rw [beq_eq_false_iff_ne]; exact hc0
            have er : r = noStore := ho
            subst er
            generalize (rollR l c).2 = code at *
            have HD5 := hideB2 (D3.two (by omega) (by omega) X3 (.slice none 0 0) (.int .i64 0))
            clear p0 p1 D2 X2 D3 X3 hb3 hc0 ho
            unfold noStore
            go_wp2
            exact ⟨⟨k - 1, l, c, g, cap, by go_num, by omega, HD5.out, HQ.out⟩, by simp [intOf]; omega⟩
        · have hz0b : ((z : Int) == 0) = false := by rw [beq_eq_false_iff_ne]; omega
          have hz1b : ((z : Int) == 1) = false := by rw [beq_eq_false_iff_ne]; omega
          have E2 := D2.later (Below.refl _ w2).drew
          have X2' := X2.drew
          have hsz2 := D2.kp.size
          obtain ⟨p0, p1⟩ := E2.blk.c2
          clear D2 X2
          go_wp2
          go_region_with (first
            | (go_at_call 34; refine (l1Below_any p 9 _ ?_ (by omega)).mono ?_; exact E2.st; rintro e w3 ⟨⟨z9, hz9, _, _, rfl⟩, hk3, hd3⟩; have D3 := E2.draw hk3 hd3; have X3 := X2'.kp hk3 (by omega); have hz99 : (z9 : Int) < 9 := hz9 (by omega); obtain ⟨u0, u1⟩ := D3.blk.c2)
            | (go_at_call 36; refine (l1of_any p z9 ⟨#[97, 98, 99, 13, 10]⟩ _ ?_ (by omega) (by decide) (by decide)).mono ?_; exact D3.st; rintro e w4 ⟨⟨t, ht, _, rfl⟩, hk4, hd4⟩; have D4 := D3.draw hk4 hd4; have X4 := X3.kp hk4 (by omega); obtain ⟨v0, v1⟩ := D4.blk.c2)
            | (go_at_call 9; refine (sAppend_any _ l c ⟨t.toArray⟩ _ ?_ hlm htm ?_).mono ?_; exact D4.sl; (show t.toArray.size ≤ _; rw [List.size_toArray]; omega); rintro e w5 ⟨r, rfl, ho, hb5⟩; have D5 := D4.later hb5; have X5 := X4.later hb5; obtain ⟨oa, on, oc, c', er⟩ := ho.form; obtain ⟨x0, x1⟩ := X5.c2; have fx0 := X5.free 0; have fx1 := X5.free 1; rw [er]; rw [er] at ho))
          all_goals
            by_cases hc0 : (appR l c ⟨t.toArray⟩).2 = 0
            · obtain ⟨L, e1, hL⟩ := appR_some hc0
              rw [e1] at ho
              rw [hc0]
              obtain ⟨g', cap', e2, hg', hgb'⟩ := ho
              cases e2
              have hsz4 := D4.kp.size
              have D6 := D5.two (by omega) (by omega) X5 (.slice (some ⟨g', 0, none⟩) L.length oc) (.int .i64 c)
              have X6 := X5.set2 (.slice (some ⟨g', 0, none⟩) L.length oc) (.int .i64 c)
              have G6 := hgb'.oth2 (hgb'.ne X5 store_ne_seg) (.slice (some ⟨g', 0, none⟩) L.length oc) (.int .i64 c)
              have HD7 := hideB2 (D6.put (c' := c) (by omega) G6)
              have HL := hideB2 hL
              obtain ⟨y0, y1⟩ := X6.c2
              obtain ⟨s0, s1⟩ := D6.blk.c2
              have fs0 := D6.blk.free 0
              have fs1 := D6.blk.free 1
              clear p0 p1 u0 u1 v0 v1 x0 x1 fx0 fx1 E2 X2' D3 X3 D4 X4 D5 X5 hgb' hb5 X6 G6 D6 hc0 e1 hL
              go_wp2
              exact ⟨⟨k - 1, L, c, g', oc, by go_num, by omega, HD7.out, HL.out⟩, by simp [intOf]; omega⟩
            · rw [appR_no hc0] at ho
              have hcb : ((appR l c ⟨t.toArray⟩).2 == 0) = false := by rw [beq_eq_false_iff_ne]; exact hc0
              generalize (appR l c ⟨t.toArray⟩).2 = code at *
              have HD7 := hideB2 (D5.two (by omega) (by omega) X5 (.slice oa on oc) (.int .i64 c'))
              clear p0 p1 u0 u1 v0 v1 x0 x1 fx0 fx1 E2 X2' D3 X3 D4 X4 D5 X5 hb5 hc0 ho
              go_wp2
              exact ⟨⟨k - 1, l, c, g, cap, by go_num, by omega, HD7.out, HQ.out⟩, by simp [intOf]; omega⟩
    · have h0i : ¬ (0 : Int) < (k : Int) := by omega
      obtain ⟨p0, p1⟩ := hD.blk.c2
      obtain ⟨r0, r1⟩ := hD.res.c2
      have f0 := hD.res.free 0
      have f1 := hD.res.free 1
      have HD := hideB2 hD
      clear hD
      go_wp2
      have hp := HD.out.plt
      refine bodyPost_ret (results_cellS rfl _ _ _ rfl (HD.out.res.set2 _ _) Tryd.underlying25 Tryd.infoStore) rfl ⟨⟨g, cap, l, c, rfl, hq, HD.out.ge, HD.out.row.oth2 (HD.out.row.ne HD.out.res store_ne_seg) _ _⟩, ?_, ?_⟩
      · exact (HD.out.kp.setNew (Nat.le_refl _) _ _).setNew (Nat.le_refl _) _ _
      · exact (HD.out.st.setNew (g := w.heap.size) hp _ _).setNew (g := w.heap.size) hp _ _
end Go.Proofs.YtknpolmenfdheaaDoor
