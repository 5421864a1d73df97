/-
  Chapter 8: a looser reader's record; the specification's side.
-/
import Derived.Test.YtffjpidjhcnnmabDoorJ4
import Derived.Test.YtffjpidjhcnnmabDoorJ5
namespace Go.Proofs.YtffjpidjhcnnmabDoor
set_option linter.unusedVariables false
set_option linter.unusedSimpArgs false
open Go.RowKit
theorem sReadWarcDate_all (a : ByteArray) (w : World) :
    Calls Tryd.prog 15 #[.string a] w fun e w' => e = .returned (.tuple #[.int .i64 (wqN a), .bool (wqO a)]) ∧ Below w.heap.size w w' := by
  obtain ⟨t, b, h1, h2⟩ := sReadWarcDate_ex a
  obtain ⟨rfl, rfl⟩ := wq_same h1
  exact h2 w
theorem ty_eq (L : ByteArray) : (L.toList == [119, 97, 114, 99, 45, 116, 121, 112, 101]) = eqB L tyF := by
  unfold eqB
  rw [ByteArray.toList_eq tyF]
  rfl
theorem id_eq (L : ByteArray) : (L.toList == [119, 97, 114, 99, 45, 114, 101, 99, 111, 114, 100, 45, 105, 100]) = eqB L idF := by
  unfold eqB
  rw [ByteArray.toList_eq idF]
  rfl
theorem da_eq (L : ByteArray) : (L.toList == [119, 97, 114, 99, 45, 100, 97, 116, 101]) = eqB L daF := by
  unfold eqB
  rw [ByteArray.toList_eq daF]
  rfl
theorem len_eq (L : ByteArray) : (L.toList == [99, 111, 110, 116, 101, 110, 116, 45, 108, 101, 110, 103, 116, 104]) = eqB L lenF := by
  unfold eqB
  rw [ByteArray.toList_eq lenF]
  rfl
theorem cntL_snoc (l : List Fd) (x : Fd) (n : ByteArray) : cntL (l ++ [x]) n = cntL l n + (if eqB x.1 n = true then 1 else 0) := by
  unfold cntL
  rw [hitL_snoc]
  by_cases h : eqB x.1 n = true
  · rw [if_pos h, if_pos h, List.length_append]; rfl
  · rw [if_neg h, if_neg h]; rfl
theorem lastV_snoc (l : List Fd) (x : Fd) (n : ByteArray) : lastV (l ++ [x]) n = if eqB x.1 n = true then x.2 else lastV l n := by
  unfold lastV
  rw [hitL_snoc]
  by_cases h : eqB x.1 n = true
  · rw [if_pos h, if_pos h]; simp
  · rw [if_neg h, if_neg h]
theorem spQ_ty {x : Fd} (h : eqB x.1 tyF = true) : spQ x = tokB x.2 := by unfold spQ; rw [if_pos h]
theorem spQ_id {x : Fd} (h : eqB x.1 idF = true) : spQ x = brQ x.2 := by unfold spQ; rw [if_neg (by rw [eqB_not h (by kernel_rfl)]; decide), if_pos h]
theorem spQ_da {x : Fd} (h : eqB x.1 daF = true) : spQ x = wqO x.2 := by unfold spQ; rw [if_neg (by rw [eqB_not h (by kernel_rfl)]; decide), if_neg (by rw [eqB_not h (by kernel_rfl)]; decide), if_pos h]
theorem spQ_len {x : Fd} (h : eqB x.1 lenF = true) : spQ x = rdecOk x.2 := by unfold spQ; rw [if_neg (by rw [eqB_not h (by kernel_rfl)]; decide), if_neg (by rw [eqB_not h (by kernel_rfl)]; decide), if_neg (by rw [eqB_not h (by kernel_rfl)]; decide), if_pos h]
theorem spQ_else {x : Fd} (h1 : eqB x.1 tyF = false) (h2 : eqB x.1 idF = false) (h3 : eqB x.1 daF = false) (h4 : eqB x.1 lenF = false) : spQ x = true := by unfold spQ; rw [h1, h2, h3, h4]; rfl
/-- The four counts. -/
def cnts (l : List Fd) : List Nat := [cntL l tyF, cntL l idF, cntL l daF, cntL l lenF]
theorem cnts_ty {l : List Fd} {x : Fd} (h : eqB x.1 tyF = true) : cnts (l ++ [x]) = (cnts l).set 0 (cntL l tyF + 1) ∧ lastV (l ++ [x]) lenF = lastV l lenF := by
  unfold cnts
  rw [cntL_snoc, cntL_snoc, cntL_snoc, cntL_snoc, lastV_snoc, h, eqB_not h (show eqB tyF idF = false by kernel_rfl), eqB_not h (show eqB tyF daF = false by kernel_rfl), eqB_not h (show eqB tyF lenF = false by kernel_rfl)]
  exact ⟨rfl, rfl⟩
theorem cnts_id {l : List Fd} {x : Fd} (h : eqB x.1 idF = true) : cnts (l ++ [x]) = (cnts l).set 1 (cntL l idF + 1) ∧ lastV (l ++ [x]) lenF = lastV l lenF := by
  unfold cnts
  rw [cntL_snoc, cntL_snoc, cntL_snoc, cntL_snoc, lastV_snoc, h, eqB_not h (show eqB idF tyF = false by kernel_rfl), eqB_not h (show eqB idF daF = false by kernel_rfl), eqB_not h (show eqB idF lenF = false by kernel_rfl)]
  exact ⟨rfl, rfl⟩
theorem cnts_da {l : List Fd} {x : Fd} (h : eqB x.1 daF = true) : cnts (l ++ [x]) = (cnts l).set 2 (cntL l daF + 1) ∧ lastV (l ++ [x]) lenF = lastV l lenF := by
  unfold cnts
  rw [cntL_snoc, cntL_snoc, cntL_snoc, cntL_snoc, lastV_snoc, h, eqB_not h (show eqB daF tyF = false by kernel_rfl), eqB_not h (show eqB daF idF = false by kernel_rfl), eqB_not h (show eqB daF lenF = false by kernel_rfl)]
  exact ⟨rfl, rfl⟩
theorem cnts_len {l : List Fd} {x : Fd} (h : eqB x.1 lenF = true) : cnts (l ++ [x]) = (cnts l).set 3 (cntL l lenF + 1) ∧ lastV (l ++ [x]) lenF = x.2 := by
  unfold cnts
  rw [cntL_snoc, cntL_snoc, cntL_snoc, cntL_snoc, lastV_snoc, h, eqB_not h (show eqB lenF tyF = false by kernel_rfl), eqB_not h (show eqB lenF idF = false by kernel_rfl), eqB_not h (show eqB lenF daF = false by kernel_rfl)]
  exact ⟨rfl, rfl⟩
theorem cnts_else {l : List Fd} {x : Fd} (h1 : eqB x.1 tyF = false) (h2 : eqB x.1 idF = false) (h3 : eqB x.1 daF = false) (h4 : eqB x.1 lenF = false) : cnts (l ++ [x]) = cnts l ∧ lastV (l ++ [x]) lenF = lastV l lenF := by
  unfold cnts
  rw [cntL_snoc, cntL_snoc, cntL_snoc, cntL_snoc, lastV_snoc, h1, h2, h3, h4]
  exact ⟨rfl, rfl⟩
/-- What is answered of the lines l so far, where p are those that come. -/
def finX (s : ByteArray) (l : List Fd) (o : Option (List Fd × Nat)) : Option Nat := o.bind fun p => (finR s (l ++ p.1) p.2).map Prod.snd
theorem finX_none (s : ByteArray) (l : List Fd) : finX s l none = none := by simp only [finX, Option.bind_none]
theorem finX_next (s : ByteArray) (l : List Fd) (x : Fd) (o : Option (List Fd × Nat)) : finX s l (o.map fun p => (x :: p.1, p.2)) = finX s (l ++ [x]) o := by
  cases o with
  | none => simp only [finX, Option.map_none, Option.bind_none]
  | some p => simp only [finX, Option.map_some, Option.bind_some, List.append_assoc, List.singleton_append]
theorem finX_bad (s : ByteArray) {l : List Fd} {x : Fd} (hx : spQ x = false) (o : Option (List Fd × Nat)) : finX s (l ++ [x]) o = none := by
  cases o with
  | none => simp only [finX, Option.bind_none]
  | some p =>
    simp only [finX, Option.bind_some]
    rw [finR_no1]
    · simp only [Option.map_none]
    · cases hq : sizeO ((l ++ [x]) ++ p.1)
      · rfl
      · have := ((sizeO_iff _).1 hq).2 x (by simp)
        rw [hx] at this; cases this
theorem finX_end (s : ByteArray) (l : List Fd) (e : Nat) : finX s l (some ([], e)) = (finR s l e).map Prod.snd := by
  simp only [finX, Option.bind_some, List.append_nil]
theorem grF_X {s : ByteArray} {k : Nat} (h : grV s k = true) : (grF s k).map (fun p => p.2.2) = finX s [] (lsF s (tlE s k + 2)) := by
  unfold grF finX
  rw [if_pos h]
  cases lsF s (tlE s k + 2) with
  | none => rfl
  | some p =>
    simp only [Option.bind_some, Option.map_map, List.nil_append]
    rfl
theorem sizeO_cnt {l : List Fd} (h : ¬ (cntL l tyF = 1 ∧ cntL l idF = 1 ∧ cntL l daF = 1 ∧ cntL l lenF = 1)) : sizeO l = false := by
  cases hq : sizeO l
  · rfl
  · exact absurd ((sizeO_iff l).1 hq).1 h
theorem rdecN_emp : rdecN ⟨#[]⟩ = 0 := by decide +kernel
theorem sizeN_last {l : List Fd} (h : cntL l lenF = 1) : sizeN l = rdecN (lastV l lenF) := by unfold sizeN; rw [onlyV_cnt, if_pos h]
set_option maxRecDepth 100000 in
set_option maxHeartbeats 16000000 in
theorem l8loose_any (s : ByteArray) (k0 : Nat) (w : World) (hs : s.size ≤ 1048576) (hk0 : k0 ≤ s.size) :
    Calls Tryd.prog 6 #[.agg #[.string s, .int .i64 (k0 : Int)]] w fun e w' => (((grF s k0).map (fun p => p.2.2) = none ∧ ∃ a n, e = .returned (.tuple #[.agg #[.string a, .int .i64 n], .bool false])) ∨ (∃ k' : Nat, (grF s k0).map (fun p => p.2.2) = some k' ∧ e = .returned (.tuple #[.agg #[.string s, .int .i64 (k' : Int)], .bool true]))) ∧ Below w.heap.size w w' := by
  have hsm : s.size ≤ maxLen := by unfold maxLen; omega
  have HTL := hideB2 (fun W => sTakeLine_ok s k0 W hsm hk0)
  have hv := ver_eq (lineAt s k0)
  generalize hX : (grF s k0).map (fun p => p.2.2) = X
  have HX := hideB2 hX
  have HS := hideB2 hs
  have HSM := hideB2 hsm
  have C0 := hideB2 ((Blk.new w #[.string s, .int .i64 (k0 : Int)] 25).alloc (.cells #[.string ⟨#[]⟩, .int .i64 0] 25))
  have R0 := hideB2 (Blk.new (w.alloc (.cells #[.string s, .int .i64 (k0 : Int)] 25)) #[.string ⟨#[]⟩, .int .i64 0] 25)
  have hsz1 : (w.alloc (.cells #[.string s, .int .i64 (k0 : Int)] 25)).heap.size = w.heap.size + 1 := by simp
  rw [hsz1] at R0
  have HB0 := hideB2 (below_a2 w (.cells #[.string s, .int .i64 (k0 : Int)] 25) (.cells #[.string ⟨#[]⟩, .int .i64 0] 25))
  clear hX hs hsm hsz1
  by_cases h1 : tlC s k0 = 0
  · have hE := tlE_ok hk0 h1
    rw [tlV_ok h1] at HTL
    change Hid (∀ W, Calls _ _ _ W fun e w' => e = .returned (.tuple #[.string (lineAt s k0), .agg #[.string s, .int .i64 ((tlE s k0 : Int) + 2)], .int .i64 0]) ∧ Below W.heap.size W w') at HTL
    have hgv : grV s k0 = eqB (lineAt s k0) verB := by unfold grV; rw [decide_eq_true h1, Bool.true_and]
    rw [← hgv] at hv
    cases hq : grV s k0
    · have hF := hideB2 (show X = none by rw [← HX.out, grF_bad hq]; rfl)
      rw [hq] at hv
      clear hgv hq h1 hE
      generalize lineAt s k0 = L at *
      generalize tlE s k0 = E at *
      go_enter Tryd.func6, Tryd.ntmps6
      go_wp2_with fail
      refine (HTL.out _).mono ?_
      rintro e w1 ⟨rfl, hb1⟩
      have C1 := hideB2 ((C0.out.later hb1).alloc (.cells #[.string s, .int .i64 ((E : Int) + 2)] 25))
      have R1 := hideB2 ((R0.out.later hb1).alloc (.cells #[.string s, .int .i64 ((E : Int) + 2)] 25))
      have HB1 := hideB2 (below_then (below_then HB0.out hb1) (below_a1 w1 (.cells #[.string s, .int .i64 ((E : Int) + 2)] 25)))
      clear hb1
      have f0 := R1.out.free 0
      have f1 := R1.out.free 1
      obtain ⟨c0, c1⟩ := C1.out.c2
      obtain ⟨r0, r1⟩ := R1.out.c2
      go_wp2
      refine bodyPost_ret (results_cellT rfl _ _ _ rfl (R1.out.set2 _ _) Tryd.underlying25 Tryd.infoCur8) rfl ⟨.inl ⟨hF.out, _, _, rfl⟩, ?_⟩
      exact (HB1.out.setCell (p := ⟨w.heap.size + 1, 0, none⟩) (Nat.le_succ _) _).setCell (p := ⟨w.heap.size + 1, 1, none⟩) (Nat.le_succ _) _
    · have hXX := hideB2 (show X = finX s [] (lsF s (tlE s k0 + 2)) from HX.out.symm.trans (grF_X hq))
      rw [hq] at hv
      clear hgv hq h1
      have HEE := hideB2 hE
      clear hE
      generalize lineAt s k0 = L at *
      generalize tlE s k0 = E at *
      go_enter Tryd.func6, Tryd.ntmps6
      go_wp2_with fail
      refine (HTL.out _).mono ?_
      rintro e w1 ⟨rfl, hb1⟩
      have C1 := hideB2 ((C0.out.later hb1).alloc (.cells #[.string s, .int .i64 ((E : Int) + 2)] 25))
      have R1 := hideB2 ((R0.out.later hb1).alloc (.cells #[.string s, .int .i64 ((E : Int) + 2)] 25))
      have A1 := hideB2 (Blk.new w1 #[.string s, .int .i64 ((E : Int) + 2)] 25)
      have HB1 := hideB2 (below_then (below_then HB0.out hb1) (below_a1 w1 (.cells #[.string s, .int .i64 ((E : Int) + 2)] 25)))
      have hl1 := hb1.size
      have hR0 := R0.out.lt
      clear hb1
      go_wp2_with (refine wp_mkI rfl _ _ rfl 4 4 4 rfl rfl rfl rfl (by omega) ?_; intro w2 hrow hb2)
      have hgz : (w1.alloc (.cells #[.string s, .int .i64 ((E : Int) + 2)] 25)).heap.size = w1.heap.size + 1 := by simp
      rw [hgz] at hrow
      have C2 := hideB2 (C1.out.later hb2)
      have R2 := hideB2 (R1.out.later hb2)
      have A2 := hideB2 (A1.out.later hb2)
      have S2 := hideB2 hrow
      have HB2 := hideB2 (below_then HB1.out hb2)
      clear hb2 hrow hgz C0 R0 C1 R1 A1 HB0 HB1 HTL hv
      have hG1 : w.heap.size + 1 < w1.heap.size := by omega
      generalize hga : w1.heap.size = ga at *
      clear hga
      go_loopw [8] (fun sz wr => ∃ (k : Nat) (l : List Fd), k ≤ s.size ∧ l.length ≤ k ∧ sz = .int .i64 (rdecN (lastV l lenF)) ∧ Blk wr w.heap.size #[.string s, .int .i64 (k0 : Int)] 25 ∧ Blk wr (w.heap.size + 1) #[.string ⟨#[]⟩, .int .i64 0] 25 ∧ Blk wr ga #[.string s, .int .i64 (k : Int)] 25 ∧ RowN wr (ga + 1) (cnts l) ∧ Below w.heap.size w wr ∧ Hid (X = finX s l (lsF s k)) ∧ Hid (∀ x ∈ l, spQ x = true)) (fun _ wr => s.size - curAt wr ga)
      case atStart =>
        refine ⟨E + 2, [], HEE.out, Nat.zero_le _, ?_, C2.out, R2.out, ?_, S2.out, HB2.out, hXX, ?_⟩
        · show Value.int .i64 0 = .int .i64 (rdecN ⟨#[]⟩)
          rw [rdecN_emp]
        · have := A2.out
          rw [show ((E + 2 : Nat) : Int) = (E : Int) + 2 by omega]
          exact this
        · intro x hx; cases hx
      case round =>
        obtain ⟨k, l, hk, hl, rfl, hC, hR, hA, hS, hbw, hx, hgood⟩ := hrel
        clear C2 R2 A2 S2 HB2 hXX HX HEE
        have HL := hideB2 hl
        have HK := hideB2 hk
        have HTK := hideB2 (fun W => sTakeLine_ok s k W HSM.out hk)
        have C3 := hideB2 hC
        have R3 := hideB2 hR
        have A3 := hideB2 hA
        have S3 := hideB2 hS
        have HB3 := hideB2 hbw
        have HM := hideB2 (curAt_blk hA)
        have hgalt := hA.lt
        have hgslt := hS.lt
        obtain ⟨p0, p1⟩ := hA.c2
        clear hl hC hR hA hS hbw
        by_cases h1 : tlC s k = 0
        · have hE := tlE_ok hk h1
          have hz := lineAt_size hk
          have hn := lenE_nil hk
          rw [tlV_ok h1] at HTK
          change Hid (∀ W, Calls _ _ _ W fun e w' => e = .returned (.tuple #[.string (lineAt s k), .agg #[.string s, .int .i64 ((tlE s k : Int) + 2)], .int .i64 0]) ∧ Below W.heap.size W w') at HTK
          by_cases h2 : (300 : Int) < ((lineAt s k).size : Int)
          · have hF := hideB2 (show X = none by rw [hx.out, lsF_bad hk (by unfold lkQ; rw [decide_eq_false (show ¬ tlE s k - k ≤ 300 by omega)]; simp)]; rfl)
            clear hx hz hn h1 hE
            generalize lineAt s k = L at *
            generalize tlE s k = E at *
            go_wp2_with fail
            clear p0 p1
            refine (HTK.out _).mono ?_
            rintro e w4 ⟨rfl, hb4⟩
            have C4 := hideB2 (C3.out.later hb4)
            have R4 := hideB2 (R3.out.later hb4)
            have A4 := hideB2 (A3.out.later hb4)
            have S4 := hideB2 (S3.out.keep hb4)
            have HB4 := hideB2 (below_then HB3.out hb4)
            have hl4 := hb4.size
            clear hb4
            have C5 := hideB2 (C4.out.alloc (.cells #[.string s, .int .i64 ((E : Int) + 2)] 25))
            have R5 := hideB2 (R4.out.alloc (.cells #[.string s, .int .i64 ((E : Int) + 2)] 25))
            have HB5 := hideB2 (below_then HB4.out (below_a1 w4 (.cells #[.string s, .int .i64 ((E : Int) + 2)] 25)))
            have f0 := R5.out.free 0
            have f1 := R5.out.free 1
            obtain ⟨c0, c1⟩ := C5.out.c2
            obtain ⟨r0, r1⟩ := R5.out.c2
            go_wp2
            refine bodyPost_ret (results_cellT rfl _ _ _ rfl (R5.out.set2 _ _) Tryd.underlying25 Tryd.infoCur8) rfl ⟨.inl ⟨hF.out, _, _, rfl⟩, ?_⟩
            exact (HB5.out.setCell (p := ⟨w.heap.size + 1, 0, none⟩) (Nat.le_succ _) _).setCell (p := ⟨w.heap.size + 1, 1, none⟩) (Nat.le_succ _) _
          · have hq : lkQ s k = true := lkQ_iff.2 ⟨h1, by omega⟩
            have d2 : decide ((300 : Int) < ((lineAt s k).size : Int)) = false := decide_eq_false h2
            by_cases he : tlE s k = k
            · have hF := hideB2 (show X = (finR s l (k + 2)).map Prod.snd by rw [hx.out, lsF_end hk hq he, finX_end])
              rw [decide_eq_true he] at hn
              rw [he] at HTK hE
              clear hx hz h1 he h2 hq
              generalize lineAt s k = L at *
              by_cases k1 : cntL l tyF = 1
              · skip
                by_cases k2 : cntL l idF = 1
                · skip
                  by_cases k3 : cntL l daF = 1
                  · skip
                    by_cases k4 : cntL l lenF = 1
                    · skip
                      have hso : sizeO l = true := (sizeO_iff l).2 ⟨⟨k1, k2, k3, k4⟩, hgood.out⟩
                      have hsn := sizeN_last k4
                      have hnn0 := rdecN_nonneg (lastV l lenF)
                      have hnn1 := rdecN_le (lastV l lenF)
                      generalize rdecN (lastV l lenF) = n at *
                      obtain ⟨nn, rfl⟩ := Int.eq_ofNat_of_zero_le hnn0
                      have HTN1 := hideB2 (fun W => sTakeN_any s ((k : Int) + 2) (nn : Int) W HSM.out (by omega))
                      have HTN2 := hideB2 (fun W => sTakeN_any s ((k : Int) + 2 + (nn : Int)) 4 W HSM.out (by omega))
                      by_cases fit1 : (k : Int) + 2 + (nn : Int) ≤ (s.size : Int)
                      · rw [show ((k : Int) + 2) = ((k + 2 : Nat) : Int) by omega, tnV_yes (s := s) (k := k + 2) (m := nn) (by omega)] at HTN1
                        rw [show ((k + 2 : Nat) : Int) = (k : Int) + 2 by omega] at HTN1
                        generalize s.extract (k + 2) (k + 2 + nn) = Dt at HTN1
                        by_cases fit2 : (k : Int) + 2 + (nn : Int) + 4 ≤ (s.size : Int)
                        · rw [show ((k : Int) + 2 + (nn : Int)) = ((k + 2 + nn : Nat) : Int) by omega, show tnV s ((k + 2 + nn : Nat) : Int) 4 = _ from tnV_yes (s := s) (k := k + 2 + nn) (m := 4) (by omega)] at HTN2
                          rw [show ((k + 2 + nn : Nat) : Int) = (k : Int) + 2 + (nn : Int) by omega] at HTN2
                          have hend := end_eq (s.extract (k + 2 + nn) (k + 2 + nn + 4))
                          have hF3 := hideB2 (fun h => show X = none by rw [hF.out, finR_no3 (s := s) (l := l) (e := k + 2) (by rw [hsn, Int.toNat_natCast]; exact h)]; rfl)
                          have hF4 := hideB2 (fun (h : eqB (s.extract (k + 2 + nn) (k + 2 + nn + 4)) crlf2B = true) => show X = some (k + 2 + nn + 4) by rw [hF.out, finR_yes (s := s) (l := l) (e := k + 2) hso (by rw [hsn]; omega) (by rw [hsn, Int.toNat_natCast]; exact h), hsn, Int.toNat_natCast]; rfl)
                          generalize s.extract (k + 2 + nn) (k + 2 + nn + 4) = En at *
                          have hc4' : ((4 : Nat) : Int) = 4 := rfl
                          rw [hc4'] at HTN2
                          cases hq2 : eqB En crlf2B
                          · have hF2 := hideB2 (hF3.out hq2)
                            rw [hq2] at hend
                            clear hF3 hF4 hq2
                            go_wp2_with fail
                            clear p0 p1
                            refine (HTK.out _).mono ?_
                            rintro e w4 ⟨rfl, hb4⟩
                            have C4 := hideB2 (C3.out.later hb4)
                            have R4 := hideB2 (R3.out.later hb4)
                            have A4 := hideB2 (A3.out.later hb4)
                            have S4 := hideB2 (S3.out.keep hb4)
                            have HB4 := hideB2 (below_then HB3.out hb4)
                            have hl4 := hb4.size
                            clear hb4
                            have hgne : w4.heap.size ≠ ga := by omega
                            have hgne' : ga ≠ w4.heap.size := by omega
                            have hg4 := A4.out.lt
                            have dd1 : w.heap.size ≠ ga := by omega
                            have dd2 : w.heap.size + 1 ≠ ga := by omega
                            have dd3 : ga ≠ w.heap.size := by omega
                            have dd4 : ga ≠ w.heap.size + 1 := by omega
                            obtain ⟨q0, q1⟩ := A4.out.c2
                            have m0 := A4.out.free 0
                            have m1 := A4.out.free 1
                            have C5 := hideB2 ((C4.out.oth2 (g := ga) (by omega) (.string s) (.int .i64 ((k : Int) + 2))).alloc (.cells #[.string s, .int .i64 ((k : Int) + 2)] 25))
                            have R5 := hideB2 ((R4.out.oth2 (g := ga) (by omega) (.string s) (.int .i64 ((k : Int) + 2))).alloc (.cells #[.string s, .int .i64 ((k : Int) + 2)] 25))
                            have A5 := hideB2 ((A4.out.set2 (.string s) (.int .i64 ((k : Int) + 2))).alloc (.cells #[.string s, .int .i64 ((k : Int) + 2)] 25))
                            have S5 := hideB2 (((S4.out.oth (g := ga) (by omega) 0 (.string s)).oth (g := ga) (by omega) 1 (.int .i64 ((k : Int) + 2))).keep (below_a1 _ (.cells #[.string s, .int .i64 ((k : Int) + 2)] 25)))
                            have HB5 := hideB2 (below_then (below_set2 HB4.out (by omega) (.string s) (.int .i64 ((k : Int) + 2))) (below_a1 ((w4.setCell ⟨ga, 0, none⟩ (.string s)).setCell ⟨ga, 1, none⟩ (.int .i64 ((k : Int) + 2))) (.cells #[.string s, .int .i64 ((k : Int) + 2)] 25)))
                            have s0 : (((w4.setCell ⟨ga, 0, none⟩ (.string s)).setCell ⟨ga, 1, none⟩ (.int .i64 ((k : Int) + 2))).alloc (.cells #[.string s, .int .i64 ((k : Int) + 2)] 25)).cell? ⟨ga + 1, 0, none⟩ = some (.int .i64 1) := by have h := S5.out.cell 0 (by show 0 < 4; omega); rw [h]; show some (Value.int .i64 ((cntL l tyF : Nat) : Int)) = _; rw [k1]; rfl
                            have s1 : (((w4.setCell ⟨ga, 0, none⟩ (.string s)).setCell ⟨ga, 1, none⟩ (.int .i64 ((k : Int) + 2))).alloc (.cells #[.string s, .int .i64 ((k : Int) + 2)] 25)).cell? ⟨ga + 1, 1, none⟩ = some (.int .i64 1) := by have h := S5.out.cell 1 (by show 1 < 4; omega); rw [h]; show some (Value.int .i64 ((cntL l idF : Nat) : Int)) = _; rw [k2]; rfl
                            have s2 : (((w4.setCell ⟨ga, 0, none⟩ (.string s)).setCell ⟨ga, 1, none⟩ (.int .i64 ((k : Int) + 2))).alloc (.cells #[.string s, .int .i64 ((k : Int) + 2)] 25)).cell? ⟨ga + 1, 2, none⟩ = some (.int .i64 1) := by have h := S5.out.cell 2 (by show 2 < 4; omega); rw [h]; show some (Value.int .i64 ((cntL l daF : Nat) : Int)) = _; rw [k3]; rfl
                            have s3 : (((w4.setCell ⟨ga, 0, none⟩ (.string s)).setCell ⟨ga, 1, none⟩ (.int .i64 ((k : Int) + 2))).alloc (.cells #[.string s, .int .i64 ((k : Int) + 2)] 25)).cell? ⟨ga + 1, 3, none⟩ = some (.int .i64 1) := by have h := S5.out.cell 3 (by show 3 < 4; omega); rw [h]; show some (Value.int .i64 ((cntL l lenF : Nat) : Int)) = _; rw [k4]; rfl
                            go_wp2_with fail
                            clear q0 q1 m0 m1 s0 s1 s2 s3
                            refine (HTN1.out _).mono ?_
                            rintro e w6 ⟨rfl, hb6⟩
                            have C6 := hideB2 (C5.out.later hb6)
                            have R6 := hideB2 (R5.out.later hb6)
                            have A6 := hideB2 (A5.out.later hb6)
                            have HB6 := hideB2 (below_then HB5.out hb6)
                            clear hb6
                            obtain ⟨q0, q1⟩ := A6.out.c2
                            have m0 := A6.out.free 0
                            have m1 := A6.out.free 1
                            go_wp2_with fail
                            refine (HTN2.out _).mono ?_
                            rintro e w7 ⟨rfl, hb7⟩
                            have C7 := hideB2 ((C6.out.oth2 (g := ga) (by omega) (.string s) (.int .i64 ((k : Int) + 2 + (nn : Int)))).later hb7)
                            have R7 := hideB2 ((R6.out.oth2 (g := ga) (by omega) (.string s) (.int .i64 ((k : Int) + 2 + (nn : Int)))).later hb7)
                            have A7 := hideB2 ((A6.out.set2 (.string s) (.int .i64 ((k : Int) + 2 + (nn : Int)))).later hb7)
                            have HB7 := hideB2 (below_then (below_set2 HB6.out (by omega) (.string s) (.int .i64 ((k : Int) + 2 + (nn : Int)))) hb7)
                            clear hb7 q0 q1 m0 m1
                            obtain ⟨q0, q1⟩ := A7.out.c2
                            have m0 := A7.out.free 0
                            have m1 := A7.out.free 1
                            have f0 := R7.out.free 0
                            have f1 := R7.out.free 1
                            obtain ⟨r0, r1⟩ := R7.out.c2
                            have RZ := hideB2 (R7.out.oth2 (g := ga) (by omega) (.string s) (.int .i64 ((k : Int) + 2 + (nn : Int) + 4)))
                            have HBZ := hideB2 (below_set2 (g := ga) HB7.out (by omega) (.string s) (.int .i64 ((k : Int) + 2 + (nn : Int) + 4)))
                            go_wp2
                            refine bodyPost_ret (results_cellT rfl _ _ _ rfl (RZ.out.set2 _ _) Tryd.underlying25 Tryd.infoCur8) rfl ⟨.inl ⟨hF2.out, _, _, rfl⟩, ?_⟩
                            exact (HBZ.out.setCell (p := ⟨w.heap.size + 1, 0, none⟩) (Nat.le_succ _) _).setCell (p := ⟨w.heap.size + 1, 1, none⟩) (Nat.le_succ _) _
                          · have hF2 := hideB2 (hF4.out hq2)
                            have hkk : ((k + 2 + nn + 4 : Nat) : Int) = (k : Int) + 2 + (nn : Int) + 4 := by omega
                            rw [hq2] at hend
                            clear hF3 hF4 hq2
                            go_wp2_with fail
                            clear p0 p1
                            refine (HTK.out _).mono ?_
                            rintro e w4 ⟨rfl, hb4⟩
                            have C4 := hideB2 (C3.out.later hb4)
                            have R4 := hideB2 (R3.out.later hb4)
                            have A4 := hideB2 (A3.out.later hb4)
                            have S4 := hideB2 (S3.out.keep hb4)
                            have HB4 := hideB2 (below_then HB3.out hb4)
                            have hl4 := hb4.size
                            clear hb4
                            have hgne : w4.heap.size ≠ ga := by omega
                            have hgne' : ga ≠ w4.heap.size := by omega
                            have hg4 := A4.out.lt
                            have dd1 : w.heap.size ≠ ga := by omega
                            have dd2 : w.heap.size + 1 ≠ ga := by omega
                            have dd3 : ga ≠ w.heap.size := by omega
                            have dd4 : ga ≠ w.heap.size + 1 := by omega
                            obtain ⟨q0, q1⟩ := A4.out.c2
                            have m0 := A4.out.free 0
                            have m1 := A4.out.free 1
                            have C5 := hideB2 ((C4.out.oth2 (g := ga) (by omega) (.string s) (.int .i64 ((k : Int) + 2))).alloc (.cells #[.string s, .int .i64 ((k : Int) + 2)] 25))
                            have R5 := hideB2 ((R4.out.oth2 (g := ga) (by omega) (.string s) (.int .i64 ((k : Int) + 2))).alloc (.cells #[.string s, .int .i64 ((k : Int) + 2)] 25))
                            have A5 := hideB2 ((A4.out.set2 (.string s) (.int .i64 ((k : Int) + 2))).alloc (.cells #[.string s, .int .i64 ((k : Int) + 2)] 25))
                            have S5 := hideB2 (((S4.out.oth (g := ga) (by omega) 0 (.string s)).oth (g := ga) (by omega) 1 (.int .i64 ((k : Int) + 2))).keep (below_a1 _ (.cells #[.string s, .int .i64 ((k : Int) + 2)] 25)))
                            have HB5 := hideB2 (below_then (below_set2 HB4.out (by omega) (.string s) (.int .i64 ((k : Int) + 2))) (below_a1 ((w4.setCell ⟨ga, 0, none⟩ (.string s)).setCell ⟨ga, 1, none⟩ (.int .i64 ((k : Int) + 2))) (.cells #[.string s, .int .i64 ((k : Int) + 2)] 25)))
                            have s0 : (((w4.setCell ⟨ga, 0, none⟩ (.string s)).setCell ⟨ga, 1, none⟩ (.int .i64 ((k : Int) + 2))).alloc (.cells #[.string s, .int .i64 ((k : Int) + 2)] 25)).cell? ⟨ga + 1, 0, none⟩ = some (.int .i64 1) := by have h := S5.out.cell 0 (by show 0 < 4; omega); rw [h]; show some (Value.int .i64 ((cntL l tyF : Nat) : Int)) = _; rw [k1]; rfl
                            have s1 : (((w4.setCell ⟨ga, 0, none⟩ (.string s)).setCell ⟨ga, 1, none⟩ (.int .i64 ((k : Int) + 2))).alloc (.cells #[.string s, .int .i64 ((k : Int) + 2)] 25)).cell? ⟨ga + 1, 1, none⟩ = some (.int .i64 1) := by have h := S5.out.cell 1 (by show 1 < 4; omega); rw [h]; show some (Value.int .i64 ((cntL l idF : Nat) : Int)) = _; rw [k2]; rfl
                            have s2 : (((w4.setCell ⟨ga, 0, none⟩ (.string s)).setCell ⟨ga, 1, none⟩ (.int .i64 ((k : Int) + 2))).alloc (.cells #[.string s, .int .i64 ((k : Int) + 2)] 25)).cell? ⟨ga + 1, 2, none⟩ = some (.int .i64 1) := by have h := S5.out.cell 2 (by show 2 < 4; omega); rw [h]; show some (Value.int .i64 ((cntL l daF : Nat) : Int)) = _; rw [k3]; rfl
                            have s3 : (((w4.setCell ⟨ga, 0, none⟩ (.string s)).setCell ⟨ga, 1, none⟩ (.int .i64 ((k : Int) + 2))).alloc (.cells #[.string s, .int .i64 ((k : Int) + 2)] 25)).cell? ⟨ga + 1, 3, none⟩ = some (.int .i64 1) := by have h := S5.out.cell 3 (by show 3 < 4; omega); rw [h]; show some (Value.int .i64 ((cntL l lenF : Nat) : Int)) = _; rw [k4]; rfl
                            go_wp2_with fail
                            clear q0 q1 m0 m1 s0 s1 s2 s3
                            refine (HTN1.out _).mono ?_
                            rintro e w6 ⟨rfl, hb6⟩
                            have C6 := hideB2 (C5.out.later hb6)
                            have R6 := hideB2 (R5.out.later hb6)
                            have A6 := hideB2 (A5.out.later hb6)
                            have HB6 := hideB2 (below_then HB5.out hb6)
                            clear hb6
                            obtain ⟨q0, q1⟩ := A6.out.c2
                            have m0 := A6.out.free 0
                            have m1 := A6.out.free 1
                            go_wp2_with fail
                            refine (HTN2.out _).mono ?_
                            rintro e w7 ⟨rfl, hb7⟩
                            have C7 := hideB2 ((C6.out.oth2 (g := ga) (by omega) (.string s) (.int .i64 ((k : Int) + 2 + (nn : Int)))).later hb7)
                            have R7 := hideB2 ((R6.out.oth2 (g := ga) (by omega) (.string s) (.int .i64 ((k : Int) + 2 + (nn : Int)))).later hb7)
                            have A7 := hideB2 ((A6.out.set2 (.string s) (.int .i64 ((k : Int) + 2 + (nn : Int)))).later hb7)
                            have HB7 := hideB2 (below_then (below_set2 HB6.out (by omega) (.string s) (.int .i64 ((k : Int) + 2 + (nn : Int)))) hb7)
                            clear hb7 q0 q1 m0 m1
                            obtain ⟨q0, q1⟩ := A7.out.c2
                            have m0 := A7.out.free 0
                            have m1 := A7.out.free 1
                            have f0 := R7.out.free 0
                            have f1 := R7.out.free 1
                            obtain ⟨r0, r1⟩ := R7.out.c2
                            have RZ := hideB2 (R7.out.oth2 (g := ga) (by omega) (.string s) (.int .i64 ((k : Int) + 2 + (nn : Int) + 4)))
                            have HBZ := hideB2 (below_set2 (g := ga) HB7.out (by omega) (.string s) (.int .i64 ((k : Int) + 2 + (nn : Int) + 4)))
                            go_wp2
                            refine bodyPost_ret (results_cellT rfl _ _ _ rfl (RZ.out.set2 _ _) Tryd.underlying25 Tryd.infoCur8) rfl ⟨.inr ⟨k + 2 + nn + 4, hF2.out, by rw [hkk]; rfl⟩, ?_⟩
                            exact (HBZ.out.setCell (p := ⟨w.heap.size + 1, 0, none⟩) (Nat.le_succ _) _).setCell (p := ⟨w.heap.size + 1, 1, none⟩) (Nat.le_succ _) _
                        · rw [tnV_no (s := s) (n := (k : Int) + 2 + (nn : Int)) (m := 4) (by unfold tnOk; rw [decide_eq_false (show ¬ (4 : Int) ≤ (s.size : Int) - ((k : Int) + 2 + (nn : Int)) by omega)]; simp)] at HTN2
                          unfold curZ at HTN2
                          have hF2 := hideB2 (show X = none by rw [hF.out, finR_no2 (s := s) (l := l) (e := k + 2) (by rw [hsn]; omega)]; rfl)
                          go_wp2_with fail
                          clear p0 p1
                          refine (HTK.out _).mono ?_
                          rintro e w4 ⟨rfl, hb4⟩
                          have C4 := hideB2 (C3.out.later hb4)
                          have R4 := hideB2 (R3.out.later hb4)
                          have A4 := hideB2 (A3.out.later hb4)
                          have S4 := hideB2 (S3.out.keep hb4)
                          have HB4 := hideB2 (below_then HB3.out hb4)
                          have hl4 := hb4.size
                          clear hb4
                          have hgne : w4.heap.size ≠ ga := by omega
                          have hgne' : ga ≠ w4.heap.size := by omega
                          have hg4 := A4.out.lt
                          have dd1 : w.heap.size ≠ ga := by omega
                          have dd2 : w.heap.size + 1 ≠ ga := by omega
                          have dd3 : ga ≠ w.heap.size := by omega
                          have dd4 : ga ≠ w.heap.size + 1 := by omega
                          obtain ⟨q0, q1⟩ := A4.out.c2
                          have m0 := A4.out.free 0
                          have m1 := A4.out.free 1
                          have C5 := hideB2 ((C4.out.oth2 (g := ga) (by omega) (.string s) (.int .i64 ((k : Int) + 2))).alloc (.cells #[.string s, .int .i64 ((k : Int) + 2)] 25))
                          have R5 := hideB2 ((R4.out.oth2 (g := ga) (by omega) (.string s) (.int .i64 ((k : Int) + 2))).alloc (.cells #[.string s, .int .i64 ((k : Int) + 2)] 25))
                          have A5 := hideB2 ((A4.out.set2 (.string s) (.int .i64 ((k : Int) + 2))).alloc (.cells #[.string s, .int .i64 ((k : Int) + 2)] 25))
                          have S5 := hideB2 (((S4.out.oth (g := ga) (by omega) 0 (.string s)).oth (g := ga) (by omega) 1 (.int .i64 ((k : Int) + 2))).keep (below_a1 _ (.cells #[.string s, .int .i64 ((k : Int) + 2)] 25)))
                          have HB5 := hideB2 (below_then (below_set2 HB4.out (by omega) (.string s) (.int .i64 ((k : Int) + 2))) (below_a1 ((w4.setCell ⟨ga, 0, none⟩ (.string s)).setCell ⟨ga, 1, none⟩ (.int .i64 ((k : Int) + 2))) (.cells #[.string s, .int .i64 ((k : Int) + 2)] 25)))
                          have s0 : (((w4.setCell ⟨ga, 0, none⟩ (.string s)).setCell ⟨ga, 1, none⟩ (.int .i64 ((k : Int) + 2))).alloc (.cells #[.string s, .int .i64 ((k : Int) + 2)] 25)).cell? ⟨ga + 1, 0, none⟩ = some (.int .i64 1) := by have h := S5.out.cell 0 (by show 0 < 4; omega); rw [h]; show some (Value.int .i64 ((cntL l tyF : Nat) : Int)) = _; rw [k1]; rfl
                          have s1 : (((w4.setCell ⟨ga, 0, none⟩ (.string s)).setCell ⟨ga, 1, none⟩ (.int .i64 ((k : Int) + 2))).alloc (.cells #[.string s, .int .i64 ((k : Int) + 2)] 25)).cell? ⟨ga + 1, 1, none⟩ = some (.int .i64 1) := by have h := S5.out.cell 1 (by show 1 < 4; omega); rw [h]; show some (Value.int .i64 ((cntL l idF : Nat) : Int)) = _; rw [k2]; rfl
                          have s2 : (((w4.setCell ⟨ga, 0, none⟩ (.string s)).setCell ⟨ga, 1, none⟩ (.int .i64 ((k : Int) + 2))).alloc (.cells #[.string s, .int .i64 ((k : Int) + 2)] 25)).cell? ⟨ga + 1, 2, none⟩ = some (.int .i64 1) := by have h := S5.out.cell 2 (by show 2 < 4; omega); rw [h]; show some (Value.int .i64 ((cntL l daF : Nat) : Int)) = _; rw [k3]; rfl
                          have s3 : (((w4.setCell ⟨ga, 0, none⟩ (.string s)).setCell ⟨ga, 1, none⟩ (.int .i64 ((k : Int) + 2))).alloc (.cells #[.string s, .int .i64 ((k : Int) + 2)] 25)).cell? ⟨ga + 1, 3, none⟩ = some (.int .i64 1) := by have h := S5.out.cell 3 (by show 3 < 4; omega); rw [h]; show some (Value.int .i64 ((cntL l lenF : Nat) : Int)) = _; rw [k4]; rfl
                          go_wp2_with fail
                          clear q0 q1 m0 m1 s0 s1 s2 s3
                          refine (HTN1.out _).mono ?_
                          rintro e w6 ⟨rfl, hb6⟩
                          have C6 := hideB2 (C5.out.later hb6)
                          have R6 := hideB2 (R5.out.later hb6)
                          have A6 := hideB2 (A5.out.later hb6)
                          have HB6 := hideB2 (below_then HB5.out hb6)
                          clear hb6
                          obtain ⟨q0, q1⟩ := A6.out.c2
                          have m0 := A6.out.free 0
                          have m1 := A6.out.free 1
                          go_wp2_with fail
                          refine (HTN2.out _).mono ?_
                          rintro e w7 ⟨rfl, hb7⟩
                          have C7 := hideB2 ((C6.out.oth2 (g := ga) (by omega) (.string s) (.int .i64 ((k : Int) + 2 + (nn : Int)))).later hb7)
                          have R7 := hideB2 ((R6.out.oth2 (g := ga) (by omega) (.string s) (.int .i64 ((k : Int) + 2 + (nn : Int)))).later hb7)
                          have A7 := hideB2 ((A6.out.set2 (.string s) (.int .i64 ((k : Int) + 2 + (nn : Int)))).later hb7)
                          have HB7 := hideB2 (below_then (below_set2 HB6.out (by omega) (.string s) (.int .i64 ((k : Int) + 2 + (nn : Int)))) hb7)
                          clear hb7 q0 q1 m0 m1
                          obtain ⟨q0, q1⟩ := A7.out.c2
                          have m0 := A7.out.free 0
                          have m1 := A7.out.free 1
                          have f0 := R7.out.free 0
                          have f1 := R7.out.free 1
                          obtain ⟨r0, r1⟩ := R7.out.c2
                          have RZ := hideB2 (R7.out.oth2 (g := ga) (by omega) (.string ⟨#[]⟩) (.int .i64 0))
                          have HBZ := hideB2 (below_set2 (g := ga) HB7.out (by omega) (.string ⟨#[]⟩) (.int .i64 0))
                          go_wp2
                          refine bodyPost_ret (results_cellT rfl _ _ _ rfl (RZ.out.set2 _ _) Tryd.underlying25 Tryd.infoCur8) rfl ⟨.inl ⟨hF2.out, _, _, rfl⟩, ?_⟩
                          exact (HBZ.out.setCell (p := ⟨w.heap.size + 1, 0, none⟩) (Nat.le_succ _) _).setCell (p := ⟨w.heap.size + 1, 1, none⟩) (Nat.le_succ _) _
                      · rw [tnV_no (s := s) (n := (k : Int) + 2) (m := (nn : Int)) (by unfold tnOk; rw [decide_eq_false (show ¬ (nn : Int) ≤ (s.size : Int) - ((k : Int) + 2) by omega)]; simp)] at HTN1
                        unfold curZ at HTN1
                        have hF2 := hideB2 (show X = none by rw [hF.out, finR_no2 (s := s) (l := l) (e := k + 2) (by rw [hsn]; omega)]; rfl)
                        go_wp2_with fail
                        clear p0 p1
                        refine (HTK.out _).mono ?_
                        rintro e w4 ⟨rfl, hb4⟩
                        have C4 := hideB2 (C3.out.later hb4)
                        have R4 := hideB2 (R3.out.later hb4)
                        have A4 := hideB2 (A3.out.later hb4)
                        have S4 := hideB2 (S3.out.keep hb4)
                        have HB4 := hideB2 (below_then HB3.out hb4)
                        have hl4 := hb4.size
                        clear hb4
                        have hgne : w4.heap.size ≠ ga := by omega
                        have hgne' : ga ≠ w4.heap.size := by omega
                        have hg4 := A4.out.lt
                        have dd1 : w.heap.size ≠ ga := by omega
                        have dd2 : w.heap.size + 1 ≠ ga := by omega
                        have dd3 : ga ≠ w.heap.size := by omega
                        have dd4 : ga ≠ w.heap.size + 1 := by omega
                        obtain ⟨q0, q1⟩ := A4.out.c2
                        have m0 := A4.out.free 0
                        have m1 := A4.out.free 1
                        have C5 := hideB2 ((C4.out.oth2 (g := ga) (by omega) (.string s) (.int .i64 ((k : Int) + 2))).alloc (.cells #[.string s, .int .i64 ((k : Int) + 2)] 25))
                        have R5 := hideB2 ((R4.out.oth2 (g := ga) (by omega) (.string s) (.int .i64 ((k : Int) + 2))).alloc (.cells #[.string s, .int .i64 ((k : Int) + 2)] 25))
                        have A5 := hideB2 ((A4.out.set2 (.string s) (.int .i64 ((k : Int) + 2))).alloc (.cells #[.string s, .int .i64 ((k : Int) + 2)] 25))
                        have S5 := hideB2 (((S4.out.oth (g := ga) (by omega) 0 (.string s)).oth (g := ga) (by omega) 1 (.int .i64 ((k : Int) + 2))).keep (below_a1 _ (.cells #[.string s, .int .i64 ((k : Int) + 2)] 25)))
                        have HB5 := hideB2 (below_then (below_set2 HB4.out (by omega) (.string s) (.int .i64 ((k : Int) + 2))) (below_a1 ((w4.setCell ⟨ga, 0, none⟩ (.string s)).setCell ⟨ga, 1, none⟩ (.int .i64 ((k : Int) + 2))) (.cells #[.string s, .int .i64 ((k : Int) + 2)] 25)))
                        have s0 : (((w4.setCell ⟨ga, 0, none⟩ (.string s)).setCell ⟨ga, 1, none⟩ (.int .i64 ((k : Int) + 2))).alloc (.cells #[.string s, .int .i64 ((k : Int) + 2)] 25)).cell? ⟨ga + 1, 0, none⟩ = some (.int .i64 1) := by have h := S5.out.cell 0 (by show 0 < 4; omega); rw [h]; show some (Value.int .i64 ((cntL l tyF : Nat) : Int)) = _; rw [k1]; rfl
                        have s1 : (((w4.setCell ⟨ga, 0, none⟩ (.string s)).setCell ⟨ga, 1, none⟩ (.int .i64 ((k : Int) + 2))).alloc (.cells #[.string s, .int .i64 ((k : Int) + 2)] 25)).cell? ⟨ga + 1, 1, none⟩ = some (.int .i64 1) := by have h := S5.out.cell 1 (by show 1 < 4; omega); rw [h]; show some (Value.int .i64 ((cntL l idF : Nat) : Int)) = _; rw [k2]; rfl
                        have s2 : (((w4.setCell ⟨ga, 0, none⟩ (.string s)).setCell ⟨ga, 1, none⟩ (.int .i64 ((k : Int) + 2))).alloc (.cells #[.string s, .int .i64 ((k : Int) + 2)] 25)).cell? ⟨ga + 1, 2, none⟩ = some (.int .i64 1) := by have h := S5.out.cell 2 (by show 2 < 4; omega); rw [h]; show some (Value.int .i64 ((cntL l daF : Nat) : Int)) = _; rw [k3]; rfl
                        have s3 : (((w4.setCell ⟨ga, 0, none⟩ (.string s)).setCell ⟨ga, 1, none⟩ (.int .i64 ((k : Int) + 2))).alloc (.cells #[.string s, .int .i64 ((k : Int) + 2)] 25)).cell? ⟨ga + 1, 3, none⟩ = some (.int .i64 1) := by have h := S5.out.cell 3 (by show 3 < 4; omega); rw [h]; show some (Value.int .i64 ((cntL l lenF : Nat) : Int)) = _; rw [k4]; rfl
                        go_wp2_with fail
                        clear q0 q1 m0 m1 s0 s1 s2 s3
                        refine (HTN1.out _).mono ?_
                        rintro e w6 ⟨rfl, hb6⟩
                        have C6 := hideB2 (C5.out.later hb6)
                        have R6 := hideB2 (R5.out.later hb6)
                        have A6 := hideB2 (A5.out.later hb6)
                        have HB6 := hideB2 (below_then HB5.out hb6)
                        clear hb6
                        obtain ⟨q0, q1⟩ := A6.out.c2
                        have m0 := A6.out.free 0
                        have m1 := A6.out.free 1
                        have f0 := R6.out.free 0
                        have f1 := R6.out.free 1
                        obtain ⟨c0, c1⟩ := C6.out.c2
                        obtain ⟨r0, r1⟩ := R6.out.c2
                        have RZ := hideB2 (R6.out.oth2 (g := ga) (by omega) (.string ⟨#[]⟩) (.int .i64 0))
                        have HBZ := hideB2 (below_set2 (g := ga) HB6.out (by omega) (.string ⟨#[]⟩) (.int .i64 0))
                        go_wp2
                        refine bodyPost_ret (results_cellT rfl _ _ _ rfl (RZ.out.set2 _ _) Tryd.underlying25 Tryd.infoCur8) rfl ⟨.inl ⟨hF2.out, _, _, rfl⟩, ?_⟩
                        exact (HBZ.out.setCell (p := ⟨w.heap.size + 1, 0, none⟩) (Nat.le_succ _) _).setCell (p := ⟨w.heap.size + 1, 1, none⟩) (Nat.le_succ _) _
                    · skip
                      go_wp2_with fail
                      clear p0 p1
                      refine (HTK.out _).mono ?_
                      rintro e w4 ⟨rfl, hb4⟩
                      have C4 := hideB2 (C3.out.later hb4)
                      have R4 := hideB2 (R3.out.later hb4)
                      have A4 := hideB2 (A3.out.later hb4)
                      have S4 := hideB2 (S3.out.keep hb4)
                      have HB4 := hideB2 (below_then HB3.out hb4)
                      have hl4 := hb4.size
                      clear hb4
                      have hgne : w4.heap.size ≠ ga := by omega
                      have hgne' : ga ≠ w4.heap.size := by omega
                      have hg4 := A4.out.lt
                      have dd1 : w.heap.size ≠ ga := by omega
                      have dd2 : w.heap.size + 1 ≠ ga := by omega
                      have dd3 : ga ≠ w.heap.size := by omega
                      have dd4 : ga ≠ w.heap.size + 1 := by omega
                      obtain ⟨q0, q1⟩ := A4.out.c2
                      have m0 := A4.out.free 0
                      have m1 := A4.out.free 1
                      have C5 := hideB2 ((C4.out.oth2 (g := ga) (by omega) (.string s) (.int .i64 ((k : Int) + 2))).alloc (.cells #[.string s, .int .i64 ((k : Int) + 2)] 25))
                      have R5 := hideB2 ((R4.out.oth2 (g := ga) (by omega) (.string s) (.int .i64 ((k : Int) + 2))).alloc (.cells #[.string s, .int .i64 ((k : Int) + 2)] 25))
                      have A5 := hideB2 ((A4.out.set2 (.string s) (.int .i64 ((k : Int) + 2))).alloc (.cells #[.string s, .int .i64 ((k : Int) + 2)] 25))
                      have S5 := hideB2 (((S4.out.oth (g := ga) (by omega) 0 (.string s)).oth (g := ga) (by omega) 1 (.int .i64 ((k : Int) + 2))).keep (below_a1 _ (.cells #[.string s, .int .i64 ((k : Int) + 2)] 25)))
                      have HB5 := hideB2 (below_then (below_set2 HB4.out (by omega) (.string s) (.int .i64 ((k : Int) + 2))) (below_a1 ((w4.setCell ⟨ga, 0, none⟩ (.string s)).setCell ⟨ga, 1, none⟩ (.int .i64 ((k : Int) + 2))) (.cells #[.string s, .int .i64 ((k : Int) + 2)] 25)))
                      have f0 := R5.out.free 0
                      have f1 := R5.out.free 1
                      obtain ⟨c0, c1⟩ := C5.out.c2
                      obtain ⟨r0, r1⟩ := R5.out.c2
                      have s0 : (((w4.setCell ⟨ga, 0, none⟩ (.string s)).setCell ⟨ga, 1, none⟩ (.int .i64 ((k : Int) + 2))).alloc (.cells #[.string s, .int .i64 ((k : Int) + 2)] 25)).cell? ⟨ga + 1, 0, none⟩ = some (.int .i64 1) := by have h := S5.out.cell 0 (by show 0 < 4; omega); rw [h]; show some (Value.int .i64 ((cntL l tyF : Nat) : Int)) = _; rw [k1]; rfl
                      have s1 : (((w4.setCell ⟨ga, 0, none⟩ (.string s)).setCell ⟨ga, 1, none⟩ (.int .i64 ((k : Int) + 2))).alloc (.cells #[.string s, .int .i64 ((k : Int) + 2)] 25)).cell? ⟨ga + 1, 1, none⟩ = some (.int .i64 1) := by have h := S5.out.cell 1 (by show 1 < 4; omega); rw [h]; show some (Value.int .i64 ((cntL l idF : Nat) : Int)) = _; rw [k2]; rfl
                      have s2 : (((w4.setCell ⟨ga, 0, none⟩ (.string s)).setCell ⟨ga, 1, none⟩ (.int .i64 ((k : Int) + 2))).alloc (.cells #[.string s, .int .i64 ((k : Int) + 2)] 25)).cell? ⟨ga + 1, 2, none⟩ = some (.int .i64 1) := by have h := S5.out.cell 2 (by show 2 < 4; omega); rw [h]; show some (Value.int .i64 ((cntL l daF : Nat) : Int)) = _; rw [k3]; rfl
                      have s3 : (((w4.setCell ⟨ga, 0, none⟩ (.string s)).setCell ⟨ga, 1, none⟩ (.int .i64 ((k : Int) + 2))).alloc (.cells #[.string s, .int .i64 ((k : Int) + 2)] 25)).cell? ⟨ga + 1, 3, none⟩ = some (.int .i64 ((cntL l lenF : Nat) : Int)) := S5.out.cell 3 (by show 3 < 4; omega)
                      have bb : (((cntL l lenF : Nat) : Int) != 1) = true := by rw [bne_iff_ne]; omega
                      have hF2 := hideB2 (show X = none by rw [hF.out, finR_no1 (sizeO_cnt fun h => k4 (by obtain ⟨a, b, c, d⟩ := h; assumption))]; rfl)
                      go_wp2
                      refine bodyPost_ret (results_cellT rfl _ _ _ rfl (R5.out.set2 _ _) Tryd.underlying25 Tryd.infoCur8) rfl ⟨.inl ⟨hF2.out, _, _, rfl⟩, ?_⟩
                      exact (HB5.out.setCell (p := ⟨w.heap.size + 1, 0, none⟩) (Nat.le_succ _) _).setCell (p := ⟨w.heap.size + 1, 1, none⟩) (Nat.le_succ _) _
                  · skip
                    go_wp2_with fail
                    clear p0 p1
                    refine (HTK.out _).mono ?_
                    rintro e w4 ⟨rfl, hb4⟩
                    have C4 := hideB2 (C3.out.later hb4)
                    have R4 := hideB2 (R3.out.later hb4)
                    have A4 := hideB2 (A3.out.later hb4)
                    have S4 := hideB2 (S3.out.keep hb4)
                    have HB4 := hideB2 (below_then HB3.out hb4)
                    have hl4 := hb4.size
                    clear hb4
                    have hgne : w4.heap.size ≠ ga := by omega
                    have hgne' : ga ≠ w4.heap.size := by omega
                    have hg4 := A4.out.lt
                    have dd1 : w.heap.size ≠ ga := by omega
                    have dd2 : w.heap.size + 1 ≠ ga := by omega
                    have dd3 : ga ≠ w.heap.size := by omega
                    have dd4 : ga ≠ w.heap.size + 1 := by omega
                    obtain ⟨q0, q1⟩ := A4.out.c2
                    have m0 := A4.out.free 0
                    have m1 := A4.out.free 1
                    have C5 := hideB2 ((C4.out.oth2 (g := ga) (by omega) (.string s) (.int .i64 ((k : Int) + 2))).alloc (.cells #[.string s, .int .i64 ((k : Int) + 2)] 25))
                    have R5 := hideB2 ((R4.out.oth2 (g := ga) (by omega) (.string s) (.int .i64 ((k : Int) + 2))).alloc (.cells #[.string s, .int .i64 ((k : Int) + 2)] 25))
                    have A5 := hideB2 ((A4.out.set2 (.string s) (.int .i64 ((k : Int) + 2))).alloc (.cells #[.string s, .int .i64 ((k : Int) + 2)] 25))
                    have S5 := hideB2 (((S4.out.oth (g := ga) (by omega) 0 (.string s)).oth (g := ga) (by omega) 1 (.int .i64 ((k : Int) + 2))).keep (below_a1 _ (.cells #[.string s, .int .i64 ((k : Int) + 2)] 25)))
                    have HB5 := hideB2 (below_then (below_set2 HB4.out (by omega) (.string s) (.int .i64 ((k : Int) + 2))) (below_a1 ((w4.setCell ⟨ga, 0, none⟩ (.string s)).setCell ⟨ga, 1, none⟩ (.int .i64 ((k : Int) + 2))) (.cells #[.string s, .int .i64 ((k : Int) + 2)] 25)))
                    have f0 := R5.out.free 0
                    have f1 := R5.out.free 1
                    obtain ⟨c0, c1⟩ := C5.out.c2
                    obtain ⟨r0, r1⟩ := R5.out.c2
                    have s0 : (((w4.setCell ⟨ga, 0, none⟩ (.string s)).setCell ⟨ga, 1, none⟩ (.int .i64 ((k : Int) + 2))).alloc (.cells #[.string s, .int .i64 ((k : Int) + 2)] 25)).cell? ⟨ga + 1, 0, none⟩ = some (.int .i64 1) := by have h := S5.out.cell 0 (by show 0 < 4; omega); rw [h]; show some (Value.int .i64 ((cntL l tyF : Nat) : Int)) = _; rw [k1]; rfl
                    have s1 : (((w4.setCell ⟨ga, 0, none⟩ (.string s)).setCell ⟨ga, 1, none⟩ (.int .i64 ((k : Int) + 2))).alloc (.cells #[.string s, .int .i64 ((k : Int) + 2)] 25)).cell? ⟨ga + 1, 1, none⟩ = some (.int .i64 1) := by have h := S5.out.cell 1 (by show 1 < 4; omega); rw [h]; show some (Value.int .i64 ((cntL l idF : Nat) : Int)) = _; rw [k2]; rfl
                    have s2 : (((w4.setCell ⟨ga, 0, none⟩ (.string s)).setCell ⟨ga, 1, none⟩ (.int .i64 ((k : Int) + 2))).alloc (.cells #[.string s, .int .i64 ((k : Int) + 2)] 25)).cell? ⟨ga + 1, 2, none⟩ = some (.int .i64 ((cntL l daF : Nat) : Int)) := S5.out.cell 2 (by show 2 < 4; omega)
                    have s3 : (((w4.setCell ⟨ga, 0, none⟩ (.string s)).setCell ⟨ga, 1, none⟩ (.int .i64 ((k : Int) + 2))).alloc (.cells #[.string s, .int .i64 ((k : Int) + 2)] 25)).cell? ⟨ga + 1, 3, none⟩ = some (.int .i64 ((cntL l lenF : Nat) : Int)) := S5.out.cell 3 (by show 3 < 4; omega)
                    have bb : (((cntL l daF : Nat) : Int) != 1) = true := by rw [bne_iff_ne]; omega
                    have hF2 := hideB2 (show X = none by rw [hF.out, finR_no1 (sizeO_cnt fun h => k3 (by obtain ⟨a, b, c, d⟩ := h; assumption))]; rfl)
                    go_wp2
                    refine bodyPost_ret (results_cellT rfl _ _ _ rfl (R5.out.set2 _ _) Tryd.underlying25 Tryd.infoCur8) rfl ⟨.inl ⟨hF2.out, _, _, rfl⟩, ?_⟩
                    exact (HB5.out.setCell (p := ⟨w.heap.size + 1, 0, none⟩) (Nat.le_succ _) _).setCell (p := ⟨w.heap.size + 1, 1, none⟩) (Nat.le_succ _) _
                · skip
                  go_wp2_with fail
                  clear p0 p1
                  refine (HTK.out _).mono ?_
                  rintro e w4 ⟨rfl, hb4⟩
                  have C4 := hideB2 (C3.out.later hb4)
                  have R4 := hideB2 (R3.out.later hb4)
                  have A4 := hideB2 (A3.out.later hb4)
                  have S4 := hideB2 (S3.out.keep hb4)
                  have HB4 := hideB2 (below_then HB3.out hb4)
                  have hl4 := hb4.size
                  clear hb4
                  have hgne : w4.heap.size ≠ ga := by omega
                  have hgne' : ga ≠ w4.heap.size := by omega
                  have hg4 := A4.out.lt
                  have dd1 : w.heap.size ≠ ga := by omega
                  have dd2 : w.heap.size + 1 ≠ ga := by omega
                  have dd3 : ga ≠ w.heap.size := by omega
                  have dd4 : ga ≠ w.heap.size + 1 := by omega
                  obtain ⟨q0, q1⟩ := A4.out.c2
                  have m0 := A4.out.free 0
                  have m1 := A4.out.free 1
                  have C5 := hideB2 ((C4.out.oth2 (g := ga) (by omega) (.string s) (.int .i64 ((k : Int) + 2))).alloc (.cells #[.string s, .int .i64 ((k : Int) + 2)] 25))
                  have R5 := hideB2 ((R4.out.oth2 (g := ga) (by omega) (.string s) (.int .i64 ((k : Int) + 2))).alloc (.cells #[.string s, .int .i64 ((k : Int) + 2)] 25))
                  have A5 := hideB2 ((A4.out.set2 (.string s) (.int .i64 ((k : Int) + 2))).alloc (.cells #[.string s, .int .i64 ((k : Int) + 2)] 25))
                  have S5 := hideB2 (((S4.out.oth (g := ga) (by omega) 0 (.string s)).oth (g := ga) (by omega) 1 (.int .i64 ((k : Int) + 2))).keep (below_a1 _ (.cells #[.string s, .int .i64 ((k : Int) + 2)] 25)))
                  have HB5 := hideB2 (below_then (below_set2 HB4.out (by omega) (.string s) (.int .i64 ((k : Int) + 2))) (below_a1 ((w4.setCell ⟨ga, 0, none⟩ (.string s)).setCell ⟨ga, 1, none⟩ (.int .i64 ((k : Int) + 2))) (.cells #[.string s, .int .i64 ((k : Int) + 2)] 25)))
                  have f0 := R5.out.free 0
                  have f1 := R5.out.free 1
                  obtain ⟨c0, c1⟩ := C5.out.c2
                  obtain ⟨r0, r1⟩ := R5.out.c2
                  have s0 : (((w4.setCell ⟨ga, 0, none⟩ (.string s)).setCell ⟨ga, 1, none⟩ (.int .i64 ((k : Int) + 2))).alloc (.cells #[.string s, .int .i64 ((k : Int) + 2)] 25)).cell? ⟨ga + 1, 0, none⟩ = some (.int .i64 1) := by have h := S5.out.cell 0 (by show 0 < 4; omega); rw [h]; show some (Value.int .i64 ((cntL l tyF : Nat) : Int)) = _; rw [k1]; rfl
                  have s1 : (((w4.setCell ⟨ga, 0, none⟩ (.string s)).setCell ⟨ga, 1, none⟩ (.int .i64 ((k : Int) + 2))).alloc (.cells #[.string s, .int .i64 ((k : Int) + 2)] 25)).cell? ⟨ga + 1, 1, none⟩ = some (.int .i64 ((cntL l idF : Nat) : Int)) := S5.out.cell 1 (by show 1 < 4; omega)
                  have s2 : (((w4.setCell ⟨ga, 0, none⟩ (.string s)).setCell ⟨ga, 1, none⟩ (.int .i64 ((k : Int) + 2))).alloc (.cells #[.string s, .int .i64 ((k : Int) + 2)] 25)).cell? ⟨ga + 1, 2, none⟩ = some (.int .i64 ((cntL l daF : Nat) : Int)) := S5.out.cell 2 (by show 2 < 4; omega)
                  have s3 : (((w4.setCell ⟨ga, 0, none⟩ (.string s)).setCell ⟨ga, 1, none⟩ (.int .i64 ((k : Int) + 2))).alloc (.cells #[.string s, .int .i64 ((k : Int) + 2)] 25)).cell? ⟨ga + 1, 3, none⟩ = some (.int .i64 ((cntL l lenF : Nat) : Int)) := S5.out.cell 3 (by show 3 < 4; omega)
                  have bb : (((cntL l idF : Nat) : Int) != 1) = true := by rw [bne_iff_ne]; omega
                  have hF2 := hideB2 (show X = none by rw [hF.out, finR_no1 (sizeO_cnt fun h => k2 (by obtain ⟨a, b, c, d⟩ := h; assumption))]; rfl)
                  go_wp2
                  refine bodyPost_ret (results_cellT rfl _ _ _ rfl (R5.out.set2 _ _) Tryd.underlying25 Tryd.infoCur8) rfl ⟨.inl ⟨hF2.out, _, _, rfl⟩, ?_⟩
                  exact (HB5.out.setCell (p := ⟨w.heap.size + 1, 0, none⟩) (Nat.le_succ _) _).setCell (p := ⟨w.heap.size + 1, 1, none⟩) (Nat.le_succ _) _
              · skip
                go_wp2_with fail
                clear p0 p1
                refine (HTK.out _).mono ?_
                rintro e w4 ⟨rfl, hb4⟩
                have C4 := hideB2 (C3.out.later hb4)
                have R4 := hideB2 (R3.out.later hb4)
                have A4 := hideB2 (A3.out.later hb4)
                have S4 := hideB2 (S3.out.keep hb4)
                have HB4 := hideB2 (below_then HB3.out hb4)
                have hl4 := hb4.size
                clear hb4
                have hgne : w4.heap.size ≠ ga := by omega
                have hgne' : ga ≠ w4.heap.size := by omega
                have hg4 := A4.out.lt
                have dd1 : w.heap.size ≠ ga := by omega
                have dd2 : w.heap.size + 1 ≠ ga := by omega
                have dd3 : ga ≠ w.heap.size := by omega
                have dd4 : ga ≠ w.heap.size + 1 := by omega
                obtain ⟨q0, q1⟩ := A4.out.c2
                have m0 := A4.out.free 0
                have m1 := A4.out.free 1
                have C5 := hideB2 ((C4.out.oth2 (g := ga) (by omega) (.string s) (.int .i64 ((k : Int) + 2))).alloc (.cells #[.string s, .int .i64 ((k : Int) + 2)] 25))
                have R5 := hideB2 ((R4.out.oth2 (g := ga) (by omega) (.string s) (.int .i64 ((k : Int) + 2))).alloc (.cells #[.string s, .int .i64 ((k : Int) + 2)] 25))
                have A5 := hideB2 ((A4.out.set2 (.string s) (.int .i64 ((k : Int) + 2))).alloc (.cells #[.string s, .int .i64 ((k : Int) + 2)] 25))
                have S5 := hideB2 (((S4.out.oth (g := ga) (by omega) 0 (.string s)).oth (g := ga) (by omega) 1 (.int .i64 ((k : Int) + 2))).keep (below_a1 _ (.cells #[.string s, .int .i64 ((k : Int) + 2)] 25)))
                have HB5 := hideB2 (below_then (below_set2 HB4.out (by omega) (.string s) (.int .i64 ((k : Int) + 2))) (below_a1 ((w4.setCell ⟨ga, 0, none⟩ (.string s)).setCell ⟨ga, 1, none⟩ (.int .i64 ((k : Int) + 2))) (.cells #[.string s, .int .i64 ((k : Int) + 2)] 25)))
                have f0 := R5.out.free 0
                have f1 := R5.out.free 1
                obtain ⟨c0, c1⟩ := C5.out.c2
                obtain ⟨r0, r1⟩ := R5.out.c2
                have s0 : (((w4.setCell ⟨ga, 0, none⟩ (.string s)).setCell ⟨ga, 1, none⟩ (.int .i64 ((k : Int) + 2))).alloc (.cells #[.string s, .int .i64 ((k : Int) + 2)] 25)).cell? ⟨ga + 1, 0, none⟩ = some (.int .i64 ((cntL l tyF : Nat) : Int)) := S5.out.cell 0 (by show 0 < 4; omega)
                have s1 : (((w4.setCell ⟨ga, 0, none⟩ (.string s)).setCell ⟨ga, 1, none⟩ (.int .i64 ((k : Int) + 2))).alloc (.cells #[.string s, .int .i64 ((k : Int) + 2)] 25)).cell? ⟨ga + 1, 1, none⟩ = some (.int .i64 ((cntL l idF : Nat) : Int)) := S5.out.cell 1 (by show 1 < 4; omega)
                have s2 : (((w4.setCell ⟨ga, 0, none⟩ (.string s)).setCell ⟨ga, 1, none⟩ (.int .i64 ((k : Int) + 2))).alloc (.cells #[.string s, .int .i64 ((k : Int) + 2)] 25)).cell? ⟨ga + 1, 2, none⟩ = some (.int .i64 ((cntL l daF : Nat) : Int)) := S5.out.cell 2 (by show 2 < 4; omega)
                have s3 : (((w4.setCell ⟨ga, 0, none⟩ (.string s)).setCell ⟨ga, 1, none⟩ (.int .i64 ((k : Int) + 2))).alloc (.cells #[.string s, .int .i64 ((k : Int) + 2)] 25)).cell? ⟨ga + 1, 3, none⟩ = some (.int .i64 ((cntL l lenF : Nat) : Int)) := S5.out.cell 3 (by show 3 < 4; omega)
                have bb : (((cntL l tyF : Nat) : Int) != 1) = true := by rw [bne_iff_ne]; omega
                have hF2 := hideB2 (show X = none by rw [hF.out, finR_no1 (sizeO_cnt fun h => k1 (by obtain ⟨a, b, c, d⟩ := h; assumption))]; rfl)
                go_wp2
                refine bodyPost_ret (results_cellT rfl _ _ _ rfl (R5.out.set2 _ _) Tryd.underlying25 Tryd.infoCur8) rfl ⟨.inl ⟨hF2.out, _, _, rfl⟩, ?_⟩
                exact (HB5.out.setCell (p := ⟨w.heap.size + 1, 0, none⟩) (Nat.le_succ _) _).setCell (p := ⟨w.heap.size + 1, 1, none⟩) (Nat.le_succ _) _
            · have hN := hideB2 (fun (h : llnO (lineAt s k) = false) => show X = none by rw [hx.out, lsF_no hk hq he h]; rfl)
              have hY := hideB2 (fun (h : llnO (lineAt s k) = true) => show X = finX s (l ++ [llnV (lineAt s k)]) (lsF s (tlE s k + 2)) by
                rw [hx.out, lsF_next hk hq he h, finX_next])
              have hLz : (lineAt s k).size ≤ 300 := by omega
              have hlm : (lineAt s k).size ≤ maxLen := by unfold maxLen; omega
              obtain ⟨u1, u2⟩ := cut_len 58 (lineAt s k)
              have z1 := uptS_size 58 (lineAt s k)
              have z2 := bhS_size 58 (lineAt s k)
              have hgt := tlE_ge s k
              have HUP := hideB2 (fun W => l6uptoS_any (lineAt s k) 58 W hlm)
              have HTO := hideB2 (fun W => sToken_any (uptS 58 (lineAt s k)) W (by unfold maxLen; omega))
              have HTR := hideB2 (fun W => sTrim_any (bhS 58 (lineAt s k)) W (by unfold maxLen; omega))
              have HFO := hideB2 (fun W => sFold_any (uptS 58 (lineAt s k)) W (by unfold maxLen; omega))
              have z3 := trimB_size (bhS 58 (lineAt s k))
              have hvz : (trimB (bhS 58 (lineAt s k))).size ≤ 300 := by omega
              have hlo : llnO (lineAt s k) = (hasS 58 (lineAt s k) && tokB (uptS 58 (lineAt s k)) && plnB (trimB (bhS 58 (lineAt s k)))) := rfl
              have hlv : llnV (lineAt s k) = (foldB (uptS 58 (lineAt s k)), trimB (bhS 58 (lineAt s k))) := rfl
              rw [decide_eq_false he] at hn
              rw [hlv] at hY
              clear hx hz h1 he h2 hq hlv
              by_cases hlt : (uptS 58 (lineAt s k)).size < (lineAt s k).size
              · rw [decide_eq_true hlt] at u1
                rw [if_pos hlt] at u2
                rw [u1, Bool.true_and] at hlo
                have hss : (((uptS 58 (lineAt s k)).size : Int) == ((lineAt s k).size : Int)) = false := by rw [beq_eq_false_iff_ne]; omega
                have hsp : ¬ ((uptS 58 (lineAt s k)).size : Int) = ((lineAt s k).size : Int) := by omega
                have e1 : IntKind.i64.wrap (((uptS 58 (lineAt s k)).size : Int) + 1) = ((uptS 58 (lineAt s k)).size : Int) + 1 := by rw [IntKind.wrap_i64]; omega
                have x1 : (0 : Int) ≤ ((uptS 58 (lineAt s k)).size : Int) + 1 := by omega
                have x2 : ((uptS 58 (lineAt s k)).size : Int) + 1 ≤ ((lineAt s k).size : Int) := by omega
                have HPL := hideB2 (fun W => l5plain_any (trimB (bhS 58 (lineAt s k))) W (by unfold maxLen; omega))
                have HTV := hideB2 (fun W => sToken_any (trimB (bhS 58 (lineAt s k))) W (by unfold maxLen; omega))
                have HWD := hideB2 (fun W => sReadWarcDate_all (trimB (bhS 58 (lineAt s k))) W)
                have HRD := hideB2 (fun W => sReadDec_any (trimB (bhS 58 (lineAt s k))) W (by unfold maxLen; omega))
                rw [u2] at HTR hlo hY HPL HTV HWD HRD hvz
                clear hlt u1 u2 z2 z3
                have hNN := hideB2 hN.out
                have hYY := hideB2 hY.out
                generalize trimB ((lineAt s k).extract ((uptS 58 (lineAt s k)).size + 1) (lineAt s k).size) = V at *
                generalize foldB (uptS 58 (lineAt s k)) = N at *
                generalize tokB (uptS 58 (lineAt s k)) = tk at *
                generalize plnB V = pl at *
                generalize llnO (lineAt s k) = O at *
                generalize uptS 58 (lineAt s k) = U at *
                generalize lineAt s k = L at *
                generalize tlE s k = E at *
                subst hlo
                clear hN hY
                cases tk
                · have hF := hideB2 (show X = none from hNN.out (by simp))
                  clear hNN hYY
                  go_wp2_with fail
                  clear p0 p1
                  refine (HTK.out _).mono ?_
                  rintro e w4 ⟨rfl, hb4⟩
                  have C4 := hideB2 (C3.out.later hb4)
                  have R4 := hideB2 (R3.out.later hb4)
                  have A4 := hideB2 (A3.out.later hb4)
                  have S4 := hideB2 (S3.out.keep hb4)
                  have HB4 := hideB2 (below_then HB3.out hb4)
                  have hl4 := hb4.size
                  clear hb4
                  have hgne : w4.heap.size ≠ ga := by omega
                  have hgne' : ga ≠ w4.heap.size := by omega
                  have hg4 := A4.out.lt
                  have dd1 : w.heap.size ≠ ga := by omega
                  have dd2 : w.heap.size + 1 ≠ ga := by omega
                  have dd3 : ga ≠ w.heap.size := by omega
                  have dd4 : ga ≠ w.heap.size + 1 := by omega
                  obtain ⟨q0, q1⟩ := A4.out.c2
                  have m0 := A4.out.free 0
                  have m1 := A4.out.free 1
                  have C5 := hideB2 ((C4.out.oth2 (g := ga) (by omega) (.string s) (.int .i64 ((E : Int) + 2))).alloc (.cells #[.string s, .int .i64 ((E : Int) + 2)] 25))
                  have R5 := hideB2 ((R4.out.oth2 (g := ga) (by omega) (.string s) (.int .i64 ((E : Int) + 2))).alloc (.cells #[.string s, .int .i64 ((E : Int) + 2)] 25))
                  have A5 := hideB2 ((A4.out.set2 (.string s) (.int .i64 ((E : Int) + 2))).alloc (.cells #[.string s, .int .i64 ((E : Int) + 2)] 25))
                  have S5 := hideB2 (((S4.out.oth (g := ga) (by omega) 0 (.string s)).oth (g := ga) (by omega) 1 (.int .i64 ((E : Int) + 2))).keep (below_a1 _ (.cells #[.string s, .int .i64 ((E : Int) + 2)] 25)))
                  have HB5 := hideB2 (below_then (below_set2 HB4.out (by omega) (.string s) (.int .i64 ((E : Int) + 2))) (below_a1 ((w4.setCell ⟨ga, 0, none⟩ (.string s)).setCell ⟨ga, 1, none⟩ (.int .i64 ((E : Int) + 2))) (.cells #[.string s, .int .i64 ((E : Int) + 2)] 25)))
                  have f0 := R5.out.free 0
                  have f1 := R5.out.free 1
                  obtain ⟨c0, c1⟩ := C5.out.c2
                  obtain ⟨r0, r1⟩ := R5.out.c2
                  go_wp2_with (first | (go_at_call 10; refine (HUP.out _).mono ?_; rintro e w' ⟨rfl, rfl⟩) | (go_at_call 11; refine (HTO.out _).mono ?_; rintro e w' ⟨rfl, rfl⟩))
                  refine bodyPost_ret (results_cellT rfl _ _ _ rfl (R5.out.set2 _ _) Tryd.underlying25 Tryd.infoCur8) rfl ⟨.inl ⟨hF.out, _, _, rfl⟩, ?_⟩
                  exact (HB5.out.setCell (p := ⟨w.heap.size + 1, 0, none⟩) (Nat.le_succ _) _).setCell (p := ⟨w.heap.size + 1, 1, none⟩) (Nat.le_succ _) _
                · rw [Bool.true_and] at hNN hYY
                  have t1 := ty_eq N
                  have t2 := id_eq N
                  have t3 := da_eq N
                  have t4 := len_eq N
                  go_wp2_with fail
                  clear p0 p1
                  refine (HTK.out _).mono ?_
                  rintro e w4 ⟨rfl, hb4⟩
                  have C4 := hideB2 (C3.out.later hb4)
                  have R4 := hideB2 (R3.out.later hb4)
                  have A4 := hideB2 (A3.out.later hb4)
                  have S4 := hideB2 (S3.out.keep hb4)
                  have HB4 := hideB2 (below_then HB3.out hb4)
                  have hl4 := hb4.size
                  clear hb4
                  have hgne : w4.heap.size ≠ ga := by omega
                  have hgne' : ga ≠ w4.heap.size := by omega
                  have hg4 := A4.out.lt
                  have dd1 : w.heap.size ≠ ga := by omega
                  have dd2 : w.heap.size + 1 ≠ ga := by omega
                  have dd3 : ga ≠ w.heap.size := by omega
                  have dd4 : ga ≠ w.heap.size + 1 := by omega
                  obtain ⟨q0, q1⟩ := A4.out.c2
                  have m0 := A4.out.free 0
                  have m1 := A4.out.free 1
                  have C5 := hideB2 ((C4.out.oth2 (g := ga) (by omega) (.string s) (.int .i64 ((E : Int) + 2))).alloc (.cells #[.string s, .int .i64 ((E : Int) + 2)] 25))
                  have R5 := hideB2 ((R4.out.oth2 (g := ga) (by omega) (.string s) (.int .i64 ((E : Int) + 2))).alloc (.cells #[.string s, .int .i64 ((E : Int) + 2)] 25))
                  have A5 := hideB2 ((A4.out.set2 (.string s) (.int .i64 ((E : Int) + 2))).alloc (.cells #[.string s, .int .i64 ((E : Int) + 2)] 25))
                  have S5 := hideB2 (((S4.out.oth (g := ga) (by omega) 0 (.string s)).oth (g := ga) (by omega) 1 (.int .i64 ((E : Int) + 2))).keep (below_a1 _ (.cells #[.string s, .int .i64 ((E : Int) + 2)] 25)))
                  have HB5 := hideB2 (below_then (below_set2 HB4.out (by omega) (.string s) (.int .i64 ((E : Int) + 2))) (below_a1 ((w4.setCell ⟨ga, 0, none⟩ (.string s)).setCell ⟨ga, 1, none⟩ (.int .i64 ((E : Int) + 2))) (.cells #[.string s, .int .i64 ((E : Int) + 2)] 25)))
                  go_wp2_with (first | (go_at_call 10; refine (HUP.out _).mono ?_; rintro e w' ⟨rfl, rfl⟩) | (go_at_call 11; refine (HTO.out _).mono ?_; rintro e w' ⟨rfl, rfl⟩) | (go_at_call 12; refine (HTR.out _).mono ?_; rintro e w' ⟨rfl, rfl⟩) | (go_at_call 13; refine (HPL.out _).mono ?_; rintro e w' ⟨rfl, rfl⟩) | fail)
                  refine (HFO.out _).mono ?_
                  rintro e w6 ⟨rfl, hb6⟩
                  have C6 := hideB2 (C5.out.later hb6)
                  have R6 := hideB2 (R5.out.later hb6)
                  have A6 := hideB2 (A5.out.later hb6)
                  have S6 := hideB2 (S5.out.keep hb6)
                  have HB6 := hideB2 (below_then HB5.out hb6)
                  clear hb6 q0 q1 m0 m1
                  have hls := HS.out
                  have hlk := HL.out
                  have g1 := cntL_le l tyF
                  have g2 := cntL_le l idF
                  have g3 := cntL_le l daF
                  have g4 := cntL_le l lenF
                  have w1' : IntKind.i64.wrap (((cntL l tyF : Nat) : Int) + 1) = ((cntL l tyF : Nat) : Int) + 1 := by rw [IntKind.wrap_i64]; omega
                  have w2' : IntKind.i64.wrap (((cntL l idF : Nat) : Int) + 1) = ((cntL l idF : Nat) : Int) + 1 := by rw [IntKind.wrap_i64]; omega
                  have w3' : IntKind.i64.wrap (((cntL l daF : Nat) : Int) + 1) = ((cntL l daF : Nat) : Int) + 1 := by rw [IntKind.wrap_i64]; omega
                  have w4' : IntKind.i64.wrap (((cntL l lenF : Nat) : Int) + 1) = ((cntL l lenF : Nat) : Int) + 1 := by rw [IntKind.wrap_i64]; omega
                  clear g1 g2 g3 g4 hls
                  have dd5 : ga + 1 ≠ w.heap.size := by omega
                  have dd6 : ga + 1 ≠ w.heap.size + 1 := by omega
                  have dd7 : w.heap.size ≠ ga + 1 := by omega
                  have dd8 : ga ≠ ga + 1 := by omega
                  have dd9 : ga + 1 ≠ ga := by omega
                  cases h1 : eqB N tyF
                  · rw [h1] at t1
                    cases h2 : eqB N idF
                    · rw [h2] at t2
                      cases h3 : eqB N daF
                      · rw [h3] at t3
                        cases h4 : eqB N lenF
                        · skip
                          rw [h4] at t4
                          obtain ⟨q1, q2⟩ := cnts_else (l := l) (x := (N, V)) h1 h2 h3 h4
                          have hsq := spQ_else (x := (N, V)) h1 h2 h3 h4
                          cases pl
                          · clear hsq q1 q2
                            have CZ := C6
                            have RZ := R6
                            have AZ := A6
                            have SZ := S6
                            have HBZ := HB6
                            have f0 := R6.out.free 0
                            have f1 := R6.out.free 1
                            obtain ⟨c0, c1⟩ := C6.out.c2
                            obtain ⟨r0, r1⟩ := R6.out.c2
                            have hF := hideB2 (hNN.out (by first | rfl | trivial))
                            go_wp2
                            refine bodyPost_ret (results_cellT rfl _ _ _ rfl (RZ.out.set2 _ _) Tryd.underlying25 Tryd.infoCur8) rfl ⟨.inl ⟨hF.out, _, _, rfl⟩, ?_⟩
                            exact (HBZ.out.setCell (p := ⟨w.heap.size + 1, 0, none⟩) (Nat.le_succ _) _).setCell (p := ⟨w.heap.size + 1, 1, none⟩) (Nat.le_succ _) _
                          · skip
                            have CZ := C6
                            have RZ := R6
                            have AZ := A6
                            have SZ := S6
                            have HBZ := HB6
                            have hF := hideB2 (hYY.out (by first | rfl | trivial))
                            have Q1 := hideB2 q1
                            have Q2 := hideB2 q2
                            have HGT := hideB2 hgt
                            have HE2 := hideB2 hE
                            have HSP := hideB2 hsq
                            clear q1 q2 hsq
                            go_wp2
                            refine ⟨⟨E + 2, l ++ [(N, V)], HE2.out, ?_, ?_, CZ.out, RZ.out, ?_, ?_, HBZ.out, hF, ?_⟩, ?_⟩
                            · have := HL.out; have := HGT.out; rw [List.length_append]; simp; omega
                            · rw [Q2.out]
                            · have := AZ.out
                              rw [show ((E + 2 : Nat) : Int) = (E : Int) + 2 by omega]
                              exact this
                            · rw [Q1.out]; exact SZ.out
                            · intro x hx
                              rcases List.mem_append.1 hx with h | h
                              · exact hgood.out x h
                              · rw [List.mem_singleton.1 h]; exact HSP.out
                            · have hA9 := AZ.out
                              rw [show ((E : Int) + 2) = ((E + 2 : Nat) : Int) by omega] at hA9
                              have hB1 := HGT.out
                              have hB2 := HE2.out
                              rw [curAt_blk hA9, HM.out]
                              omega
                        · skip
                          rw [h4] at t4
                          obtain ⟨q1, q2⟩ := cnts_len (l := l) (x := (N, V)) h4
                          have hsq := spQ_len (x := (N, V)) h4
                          change spQ (N, V) = rdecOk V at hsq
                          generalize rdecOk V = gv at *
                          cases pl <;> cases gv
                          · clear hsq q1 q2
                            go_wp2_with fail
                            refine (HRD.out _).mono ?_
                            rintro e w7 ⟨rfl, hb7⟩
                            have C7 := hideB2 (C6.out.later hb7)
                            have R7 := hideB2 (R6.out.later hb7)
                            have A7 := hideB2 (A6.out.later hb7)
                            have S7 := hideB2 (S6.out.keep hb7)
                            have HB7 := hideB2 (below_then HB6.out hb7)
                            clear hb7
                            have CZ := hideB2 (C7.out.other (b' := ga + 1) (by omega) 3 (.int .i64 (((cntL l lenF : Nat) : Int) + 1)))
                            have RZ := hideB2 (R7.out.other (b' := ga + 1) (by omega) 3 (.int .i64 (((cntL l lenF : Nat) : Int) + 1)))
                            have AZ := hideB2 (A7.out.other (b' := ga + 1) (by omega) 3 (.int .i64 (((cntL l lenF : Nat) : Int) + 1)))
                            have SZ := hideB2 (S7.out.set 3 (cntL l lenF + 1) (by show 3 < 4; omega))
                            have HBZ := hideB2 (HB7.out.setCell (p := ⟨ga + 1, 3, none⟩) (by show w.heap.size ≤ ga + 1; omega) (.int .i64 (((cntL l lenF : Nat) : Int) + 1)))
                            have s0 : w7.cell? ⟨ga + 1, 3, none⟩ = some (.int .i64 ((cntL l lenF : Nat) : Int)) := S7.out.cell 3 (by show 3 < 4; omega)
                            have sf : w7.frozen? ⟨ga + 1, 3, none⟩ = false := S7.out.free 3
                            have f0 := R7.out.free 0
                            have f1 := R7.out.free 1
                            obtain ⟨c0, c1⟩ := C7.out.c2
                            obtain ⟨r0, r1⟩ := R7.out.c2
                            have hF := hideB2 (hNN.out (by first | rfl | trivial))
                            go_wp2
                            refine bodyPost_ret (results_cellT rfl _ _ _ rfl (RZ.out.set2 _ _) Tryd.underlying25 Tryd.infoCur8) rfl ⟨.inl ⟨hF.out, _, _, rfl⟩, ?_⟩
                            exact (HBZ.out.setCell (p := ⟨w.heap.size + 1, 0, none⟩) (Nat.le_succ _) _).setCell (p := ⟨w.heap.size + 1, 1, none⟩) (Nat.le_succ _) _
                          · clear hsq q1 q2
                            go_wp2_with fail
                            refine (HRD.out _).mono ?_
                            rintro e w7 ⟨rfl, hb7⟩
                            have C7 := hideB2 (C6.out.later hb7)
                            have R7 := hideB2 (R6.out.later hb7)
                            have A7 := hideB2 (A6.out.later hb7)
                            have S7 := hideB2 (S6.out.keep hb7)
                            have HB7 := hideB2 (below_then HB6.out hb7)
                            clear hb7
                            have CZ := hideB2 (C7.out.other (b' := ga + 1) (by omega) 3 (.int .i64 (((cntL l lenF : Nat) : Int) + 1)))
                            have RZ := hideB2 (R7.out.other (b' := ga + 1) (by omega) 3 (.int .i64 (((cntL l lenF : Nat) : Int) + 1)))
                            have AZ := hideB2 (A7.out.other (b' := ga + 1) (by omega) 3 (.int .i64 (((cntL l lenF : Nat) : Int) + 1)))
                            have SZ := hideB2 (S7.out.set 3 (cntL l lenF + 1) (by show 3 < 4; omega))
                            have HBZ := hideB2 (HB7.out.setCell (p := ⟨ga + 1, 3, none⟩) (by show w.heap.size ≤ ga + 1; omega) (.int .i64 (((cntL l lenF : Nat) : Int) + 1)))
                            have s0 : w7.cell? ⟨ga + 1, 3, none⟩ = some (.int .i64 ((cntL l lenF : Nat) : Int)) := S7.out.cell 3 (by show 3 < 4; omega)
                            have sf : w7.frozen? ⟨ga + 1, 3, none⟩ = false := S7.out.free 3
                            have f0 := R7.out.free 0
                            have f1 := R7.out.free 1
                            obtain ⟨c0, c1⟩ := C7.out.c2
                            obtain ⟨r0, r1⟩ := R7.out.c2
                            have hF := hideB2 (hNN.out (by first | rfl | trivial))
                            go_wp2
                            refine bodyPost_ret (results_cellT rfl _ _ _ rfl (RZ.out.set2 _ _) Tryd.underlying25 Tryd.infoCur8) rfl ⟨.inl ⟨hF.out, _, _, rfl⟩, ?_⟩
                            exact (HBZ.out.setCell (p := ⟨w.heap.size + 1, 0, none⟩) (Nat.le_succ _) _).setCell (p := ⟨w.heap.size + 1, 1, none⟩) (Nat.le_succ _) _
                          · clear q1 q2
                            go_wp2_with fail
                            refine (HRD.out _).mono ?_
                            rintro e w7 ⟨rfl, hb7⟩
                            have C7 := hideB2 (C6.out.later hb7)
                            have R7 := hideB2 (R6.out.later hb7)
                            have A7 := hideB2 (A6.out.later hb7)
                            have S7 := hideB2 (S6.out.keep hb7)
                            have HB7 := hideB2 (below_then HB6.out hb7)
                            clear hb7
                            have CZ := hideB2 (C7.out.other (b' := ga + 1) (by omega) 3 (.int .i64 (((cntL l lenF : Nat) : Int) + 1)))
                            have RZ := hideB2 (R7.out.other (b' := ga + 1) (by omega) 3 (.int .i64 (((cntL l lenF : Nat) : Int) + 1)))
                            have AZ := hideB2 (A7.out.other (b' := ga + 1) (by omega) 3 (.int .i64 (((cntL l lenF : Nat) : Int) + 1)))
                            have SZ := hideB2 (S7.out.set 3 (cntL l lenF + 1) (by show 3 < 4; omega))
                            have HBZ := hideB2 (HB7.out.setCell (p := ⟨ga + 1, 3, none⟩) (by show w.heap.size ≤ ga + 1; omega) (.int .i64 (((cntL l lenF : Nat) : Int) + 1)))
                            have s0 : w7.cell? ⟨ga + 1, 3, none⟩ = some (.int .i64 ((cntL l lenF : Nat) : Int)) := S7.out.cell 3 (by show 3 < 4; omega)
                            have sf : w7.frozen? ⟨ga + 1, 3, none⟩ = false := S7.out.free 3
                            have f0 := R7.out.free 0
                            have f1 := R7.out.free 1
                            obtain ⟨c0, c1⟩ := C7.out.c2
                            obtain ⟨r0, r1⟩ := R7.out.c2
                            have hF := hideB2 ((hYY.out (by first | rfl | trivial)).trans (finX_bad s hsq _))
                            go_wp2
                            refine bodyPost_ret (results_cellT rfl _ _ _ rfl (RZ.out.set2 _ _) Tryd.underlying25 Tryd.infoCur8) rfl ⟨.inl ⟨hF.out, _, _, rfl⟩, ?_⟩
                            exact (HBZ.out.setCell (p := ⟨w.heap.size + 1, 0, none⟩) (Nat.le_succ _) _).setCell (p := ⟨w.heap.size + 1, 1, none⟩) (Nat.le_succ _) _
                          · skip
                            go_wp2_with fail
                            refine (HRD.out _).mono ?_
                            rintro e w7 ⟨rfl, hb7⟩
                            have C7 := hideB2 (C6.out.later hb7)
                            have R7 := hideB2 (R6.out.later hb7)
                            have A7 := hideB2 (A6.out.later hb7)
                            have S7 := hideB2 (S6.out.keep hb7)
                            have HB7 := hideB2 (below_then HB6.out hb7)
                            clear hb7
                            have CZ := hideB2 (C7.out.other (b' := ga + 1) (by omega) 3 (.int .i64 (((cntL l lenF : Nat) : Int) + 1)))
                            have RZ := hideB2 (R7.out.other (b' := ga + 1) (by omega) 3 (.int .i64 (((cntL l lenF : Nat) : Int) + 1)))
                            have AZ := hideB2 (A7.out.other (b' := ga + 1) (by omega) 3 (.int .i64 (((cntL l lenF : Nat) : Int) + 1)))
                            have SZ := hideB2 (S7.out.set 3 (cntL l lenF + 1) (by show 3 < 4; omega))
                            have HBZ := hideB2 (HB7.out.setCell (p := ⟨ga + 1, 3, none⟩) (by show w.heap.size ≤ ga + 1; omega) (.int .i64 (((cntL l lenF : Nat) : Int) + 1)))
                            have s0 : w7.cell? ⟨ga + 1, 3, none⟩ = some (.int .i64 ((cntL l lenF : Nat) : Int)) := S7.out.cell 3 (by show 3 < 4; omega)
                            have sf : w7.frozen? ⟨ga + 1, 3, none⟩ = false := S7.out.free 3
                            have hF := hideB2 (hYY.out (by first | rfl | trivial))
                            have Q1 := hideB2 q1
                            have Q2 := hideB2 q2
                            have HGT := hideB2 hgt
                            have HE2 := hideB2 hE
                            have HSP := hideB2 hsq
                            clear q1 q2 hsq
                            go_wp2
                            refine ⟨⟨E + 2, l ++ [(N, V)], HE2.out, ?_, ?_, CZ.out, RZ.out, ?_, ?_, HBZ.out, hF, ?_⟩, ?_⟩
                            · have := HL.out; have := HGT.out; rw [List.length_append]; simp; omega
                            · rw [Q2.out]
                            · have := AZ.out
                              rw [show ((E + 2 : Nat) : Int) = (E : Int) + 2 by omega]
                              exact this
                            · rw [Q1.out]
                              have := SZ.out
                              rw [show (((cntL l lenF + 1 : Nat)) : Int) = ((cntL l lenF : Nat) : Int) + 1 by omega] at this
                              exact this
                            · intro x hx
                              rcases List.mem_append.1 hx with h | h
                              · exact hgood.out x h
                              · rw [List.mem_singleton.1 h]; exact HSP.out
                            · have hA9 := AZ.out
                              rw [show ((E : Int) + 2) = ((E + 2 : Nat) : Int) by omega] at hA9
                              have hB1 := HGT.out
                              have hB2 := HE2.out
                              rw [curAt_blk hA9, HM.out]
                              omega
                      · skip
                        rw [h3] at t3
                        obtain ⟨q1, q2⟩ := cnts_da (l := l) (x := (N, V)) h3
                        have hsq := spQ_da (x := (N, V)) h3
                        change spQ (N, V) = wqO V at hsq
                        generalize wqO V = gv at *
                        cases pl <;> cases gv
                        · clear hsq q1 q2
                          go_wp2_with fail
                          refine (HWD.out _).mono ?_
                          rintro e w7 ⟨rfl, hb7⟩
                          have C7 := hideB2 (C6.out.later hb7)
                          have R7 := hideB2 (R6.out.later hb7)
                          have A7 := hideB2 (A6.out.later hb7)
                          have S7 := hideB2 (S6.out.keep hb7)
                          have HB7 := hideB2 (below_then HB6.out hb7)
                          clear hb7
                          have CZ := hideB2 (C7.out.other (b' := ga + 1) (by omega) 2 (.int .i64 (((cntL l daF : Nat) : Int) + 1)))
                          have RZ := hideB2 (R7.out.other (b' := ga + 1) (by omega) 2 (.int .i64 (((cntL l daF : Nat) : Int) + 1)))
                          have AZ := hideB2 (A7.out.other (b' := ga + 1) (by omega) 2 (.int .i64 (((cntL l daF : Nat) : Int) + 1)))
                          have SZ := hideB2 (S7.out.set 2 (cntL l daF + 1) (by show 2 < 4; omega))
                          have HBZ := hideB2 (HB7.out.setCell (p := ⟨ga + 1, 2, none⟩) (by show w.heap.size ≤ ga + 1; omega) (.int .i64 (((cntL l daF : Nat) : Int) + 1)))
                          have s0 : w7.cell? ⟨ga + 1, 2, none⟩ = some (.int .i64 ((cntL l daF : Nat) : Int)) := S7.out.cell 2 (by show 2 < 4; omega)
                          have sf : w7.frozen? ⟨ga + 1, 2, none⟩ = false := S7.out.free 2
                          have f0 := R7.out.free 0
                          have f1 := R7.out.free 1
                          obtain ⟨c0, c1⟩ := C7.out.c2
                          obtain ⟨r0, r1⟩ := R7.out.c2
                          have hF := hideB2 (hNN.out (by first | rfl | trivial))
                          go_wp2
                          refine bodyPost_ret (results_cellT rfl _ _ _ rfl (RZ.out.set2 _ _) Tryd.underlying25 Tryd.infoCur8) rfl ⟨.inl ⟨hF.out, _, _, rfl⟩, ?_⟩
                          exact (HBZ.out.setCell (p := ⟨w.heap.size + 1, 0, none⟩) (Nat.le_succ _) _).setCell (p := ⟨w.heap.size + 1, 1, none⟩) (Nat.le_succ _) _
                        · clear hsq q1 q2
                          go_wp2_with fail
                          refine (HWD.out _).mono ?_
                          rintro e w7 ⟨rfl, hb7⟩
                          have C7 := hideB2 (C6.out.later hb7)
                          have R7 := hideB2 (R6.out.later hb7)
                          have A7 := hideB2 (A6.out.later hb7)
                          have S7 := hideB2 (S6.out.keep hb7)
                          have HB7 := hideB2 (below_then HB6.out hb7)
                          clear hb7
                          have CZ := hideB2 (C7.out.other (b' := ga + 1) (by omega) 2 (.int .i64 (((cntL l daF : Nat) : Int) + 1)))
                          have RZ := hideB2 (R7.out.other (b' := ga + 1) (by omega) 2 (.int .i64 (((cntL l daF : Nat) : Int) + 1)))
                          have AZ := hideB2 (A7.out.other (b' := ga + 1) (by omega) 2 (.int .i64 (((cntL l daF : Nat) : Int) + 1)))
                          have SZ := hideB2 (S7.out.set 2 (cntL l daF + 1) (by show 2 < 4; omega))
                          have HBZ := hideB2 (HB7.out.setCell (p := ⟨ga + 1, 2, none⟩) (by show w.heap.size ≤ ga + 1; omega) (.int .i64 (((cntL l daF : Nat) : Int) + 1)))
                          have s0 : w7.cell? ⟨ga + 1, 2, none⟩ = some (.int .i64 ((cntL l daF : Nat) : Int)) := S7.out.cell 2 (by show 2 < 4; omega)
                          have sf : w7.frozen? ⟨ga + 1, 2, none⟩ = false := S7.out.free 2
                          have f0 := R7.out.free 0
                          have f1 := R7.out.free 1
                          obtain ⟨c0, c1⟩ := C7.out.c2
                          obtain ⟨r0, r1⟩ := R7.out.c2
                          have hF := hideB2 (hNN.out (by first | rfl | trivial))
                          go_wp2
                          refine bodyPost_ret (results_cellT rfl _ _ _ rfl (RZ.out.set2 _ _) Tryd.underlying25 Tryd.infoCur8) rfl ⟨.inl ⟨hF.out, _, _, rfl⟩, ?_⟩
                          exact (HBZ.out.setCell (p := ⟨w.heap.size + 1, 0, none⟩) (Nat.le_succ _) _).setCell (p := ⟨w.heap.size + 1, 1, none⟩) (Nat.le_succ _) _
                        · clear q1 q2
                          go_wp2_with fail
                          refine (HWD.out _).mono ?_
                          rintro e w7 ⟨rfl, hb7⟩
                          have C7 := hideB2 (C6.out.later hb7)
                          have R7 := hideB2 (R6.out.later hb7)
                          have A7 := hideB2 (A6.out.later hb7)
                          have S7 := hideB2 (S6.out.keep hb7)
                          have HB7 := hideB2 (below_then HB6.out hb7)
                          clear hb7
                          have CZ := hideB2 (C7.out.other (b' := ga + 1) (by omega) 2 (.int .i64 (((cntL l daF : Nat) : Int) + 1)))
                          have RZ := hideB2 (R7.out.other (b' := ga + 1) (by omega) 2 (.int .i64 (((cntL l daF : Nat) : Int) + 1)))
                          have AZ := hideB2 (A7.out.other (b' := ga + 1) (by omega) 2 (.int .i64 (((cntL l daF : Nat) : Int) + 1)))
                          have SZ := hideB2 (S7.out.set 2 (cntL l daF + 1) (by show 2 < 4; omega))
                          have HBZ := hideB2 (HB7.out.setCell (p := ⟨ga + 1, 2, none⟩) (by show w.heap.size ≤ ga + 1; omega) (.int .i64 (((cntL l daF : Nat) : Int) + 1)))
                          have s0 : w7.cell? ⟨ga + 1, 2, none⟩ = some (.int .i64 ((cntL l daF : Nat) : Int)) := S7.out.cell 2 (by show 2 < 4; omega)
                          have sf : w7.frozen? ⟨ga + 1, 2, none⟩ = false := S7.out.free 2
                          have f0 := R7.out.free 0
                          have f1 := R7.out.free 1
                          obtain ⟨c0, c1⟩ := C7.out.c2
                          obtain ⟨r0, r1⟩ := R7.out.c2
                          have hF := hideB2 ((hYY.out (by first | rfl | trivial)).trans (finX_bad s hsq _))
                          go_wp2
                          refine bodyPost_ret (results_cellT rfl _ _ _ rfl (RZ.out.set2 _ _) Tryd.underlying25 Tryd.infoCur8) rfl ⟨.inl ⟨hF.out, _, _, rfl⟩, ?_⟩
                          exact (HBZ.out.setCell (p := ⟨w.heap.size + 1, 0, none⟩) (Nat.le_succ _) _).setCell (p := ⟨w.heap.size + 1, 1, none⟩) (Nat.le_succ _) _
                        · skip
                          go_wp2_with fail
                          refine (HWD.out _).mono ?_
                          rintro e w7 ⟨rfl, hb7⟩
                          have C7 := hideB2 (C6.out.later hb7)
                          have R7 := hideB2 (R6.out.later hb7)
                          have A7 := hideB2 (A6.out.later hb7)
                          have S7 := hideB2 (S6.out.keep hb7)
                          have HB7 := hideB2 (below_then HB6.out hb7)
                          clear hb7
                          have CZ := hideB2 (C7.out.other (b' := ga + 1) (by omega) 2 (.int .i64 (((cntL l daF : Nat) : Int) + 1)))
                          have RZ := hideB2 (R7.out.other (b' := ga + 1) (by omega) 2 (.int .i64 (((cntL l daF : Nat) : Int) + 1)))
                          have AZ := hideB2 (A7.out.other (b' := ga + 1) (by omega) 2 (.int .i64 (((cntL l daF : Nat) : Int) + 1)))
                          have SZ := hideB2 (S7.out.set 2 (cntL l daF + 1) (by show 2 < 4; omega))
                          have HBZ := hideB2 (HB7.out.setCell (p := ⟨ga + 1, 2, none⟩) (by show w.heap.size ≤ ga + 1; omega) (.int .i64 (((cntL l daF : Nat) : Int) + 1)))
                          have s0 : w7.cell? ⟨ga + 1, 2, none⟩ = some (.int .i64 ((cntL l daF : Nat) : Int)) := S7.out.cell 2 (by show 2 < 4; omega)
                          have sf : w7.frozen? ⟨ga + 1, 2, none⟩ = false := S7.out.free 2
                          have hF := hideB2 (hYY.out (by first | rfl | trivial))
                          have Q1 := hideB2 q1
                          have Q2 := hideB2 q2
                          have HGT := hideB2 hgt
                          have HE2 := hideB2 hE
                          have HSP := hideB2 hsq
                          clear q1 q2 hsq
                          go_wp2
                          refine ⟨⟨E + 2, l ++ [(N, V)], HE2.out, ?_, ?_, CZ.out, RZ.out, ?_, ?_, HBZ.out, hF, ?_⟩, ?_⟩
                          · have := HL.out; have := HGT.out; rw [List.length_append]; simp; omega
                          · rw [Q2.out]
                          · have := AZ.out
                            rw [show ((E + 2 : Nat) : Int) = (E : Int) + 2 by omega]
                            exact this
                          · rw [Q1.out]
                            have := SZ.out
                            rw [show (((cntL l daF + 1 : Nat)) : Int) = ((cntL l daF : Nat) : Int) + 1 by omega] at this
                            exact this
                          · intro x hx
                            rcases List.mem_append.1 hx with h | h
                            · exact hgood.out x h
                            · rw [List.mem_singleton.1 h]; exact HSP.out
                          · have hA9 := AZ.out
                            rw [show ((E : Int) + 2) = ((E + 2 : Nat) : Int) by omega] at hA9
                            have hB1 := HGT.out
                            have hB2 := HE2.out
                            rw [curAt_blk hA9, HM.out]
                            omega
                    · skip
                      rw [h2] at t2
                      obtain ⟨q1, q2⟩ := cnts_id (l := l) (x := (N, V)) h2
                      have hsq := spQ_id (x := (N, V)) h2
                      change spQ (N, V) = brQ V at hsq
                      cases pl
                      · clear hsq q1 q2
                        have CZ := hideB2 (C6.out.other (b' := ga + 1) (by omega) 1 (.int .i64 (((cntL l idF : Nat) : Int) + 1)))
                        have RZ := hideB2 (R6.out.other (b' := ga + 1) (by omega) 1 (.int .i64 (((cntL l idF : Nat) : Int) + 1)))
                        have AZ := hideB2 (A6.out.other (b' := ga + 1) (by omega) 1 (.int .i64 (((cntL l idF : Nat) : Int) + 1)))
                        have SZ := hideB2 (S6.out.set 1 (cntL l idF + 1) (by show 1 < 4; omega))
                        have HBZ := hideB2 (HB6.out.setCell (p := ⟨ga + 1, 1, none⟩) (by show w.heap.size ≤ ga + 1; omega) (.int .i64 (((cntL l idF : Nat) : Int) + 1)))
                        have s0 : w6.cell? ⟨ga + 1, 1, none⟩ = some (.int .i64 ((cntL l idF : Nat) : Int)) := S6.out.cell 1 (by show 1 < 4; omega)
                        have sf : w6.frozen? ⟨ga + 1, 1, none⟩ = false := S6.out.free 1
                        have f0 := R6.out.free 0
                        have f1 := R6.out.free 1
                        obtain ⟨c0, c1⟩ := C6.out.c2
                        obtain ⟨r0, r1⟩ := R6.out.c2
                        have hF := hideB2 (hNN.out (by first | rfl | trivial))
                        go_wp2
                        refine bodyPost_ret (results_cellT rfl _ _ _ rfl (RZ.out.set2 _ _) Tryd.underlying25 Tryd.infoCur8) rfl ⟨.inl ⟨hF.out, _, _, rfl⟩, ?_⟩
                        exact (HBZ.out.setCell (p := ⟨w.heap.size + 1, 0, none⟩) (Nat.le_succ _) _).setCell (p := ⟨w.heap.size + 1, 1, none⟩) (Nat.le_succ _) _
                      · by_cases v3 : 3 ≤ V.size
                        · have y1 : (3 : Int) ≤ (V.size : Int) := by omega
                          have hat0 : V[0] = at8 V 0 := at8_eq V 0 (by omega)
                          have y0 : (0 : Int) < (V.size : Int) := by omega
                          by_cases v60 : (at8 V 0).toNat = 60
                          · rw [brQ_last v3 v60] at hsq
                            have hb0 : ((at8 V 0).toNat : Int) = 60 := by omega
                            have y4 : IntKind.i64.wrap ((V.size : Int) - 1) = ((V.size - 1 : Nat) : Int) := by rw [IntKind.wrap_i64]; omega
                            have hat1 : V[V.size - 1] = at8 V (V.size - 1) := at8_eq V (V.size - 1) (by omega)
                            have y2 : ((V.size - 1 : Nat) : Int) < (V.size : Int) := by omega
                            have y3 : V.size - 1 < V.size := by omega
                            by_cases v62 : (at8 V (V.size - 1)).toNat = 62
                            · have hb1 : ((at8 V (V.size - 1)).toNat : Int) = 62 := by omega
                              rw [decide_eq_true v62] at hsq
                              have CZ := hideB2 (C6.out.other (b' := ga + 1) (by omega) 1 (.int .i64 (((cntL l idF : Nat) : Int) + 1)))
                              have RZ := hideB2 (R6.out.other (b' := ga + 1) (by omega) 1 (.int .i64 (((cntL l idF : Nat) : Int) + 1)))
                              have AZ := hideB2 (A6.out.other (b' := ga + 1) (by omega) 1 (.int .i64 (((cntL l idF : Nat) : Int) + 1)))
                              have SZ := hideB2 (S6.out.set 1 (cntL l idF + 1) (by show 1 < 4; omega))
                              have HBZ := hideB2 (HB6.out.setCell (p := ⟨ga + 1, 1, none⟩) (by show w.heap.size ≤ ga + 1; omega) (.int .i64 (((cntL l idF : Nat) : Int) + 1)))
                              have s0 : w6.cell? ⟨ga + 1, 1, none⟩ = some (.int .i64 ((cntL l idF : Nat) : Int)) := S6.out.cell 1 (by show 1 < 4; omega)
                              have sf : w6.frozen? ⟨ga + 1, 1, none⟩ = false := S6.out.free 1
                              have hF := hideB2 (hYY.out (by first | rfl | trivial))
                              have Q1 := hideB2 q1
                              have Q2 := hideB2 q2
                              have HGT := hideB2 hgt
                              have HE2 := hideB2 hE
                              have HSP := hideB2 hsq
                              clear q1 q2 hsq
                              go_wp2
                              refine ⟨⟨E + 2, l ++ [(N, V)], HE2.out, ?_, ?_, CZ.out, RZ.out, ?_, ?_, HBZ.out, hF, ?_⟩, ?_⟩
                              · have := HL.out; have := HGT.out; rw [List.length_append]; simp; omega
                              · rw [Q2.out]
                              · have := AZ.out
                                rw [show ((E + 2 : Nat) : Int) = (E : Int) + 2 by omega]
                                exact this
                              · rw [Q1.out]
                                have := SZ.out
                                rw [show (((cntL l idF + 1 : Nat)) : Int) = ((cntL l idF : Nat) : Int) + 1 by omega] at this
                                exact this
                              · intro x hx
                                rcases List.mem_append.1 hx with h | h
                                · exact hgood.out x h
                                · rw [List.mem_singleton.1 h]; exact HSP.out
                              · have hA9 := AZ.out
                                rw [show ((E : Int) + 2) = ((E + 2 : Nat) : Int) by omega] at hA9
                                have hB1 := HGT.out
                                have hB2 := HE2.out
                                rw [curAt_blk hA9, HM.out]
                                omega
                            · have hb1 : ¬ ((at8 V (V.size - 1)).toNat : Int) = 62 := by omega
                              have hb2 : (((at8 V (V.size - 1)).toNat : Int) == 62) = false := by rw [beq_eq_false_iff_ne]; exact hb1
                              rw [decide_eq_false v62] at hsq
                              clear q1 q2
                              have CZ := hideB2 (C6.out.other (b' := ga + 1) (by omega) 1 (.int .i64 (((cntL l idF : Nat) : Int) + 1)))
                              have RZ := hideB2 (R6.out.other (b' := ga + 1) (by omega) 1 (.int .i64 (((cntL l idF : Nat) : Int) + 1)))
                              have AZ := hideB2 (A6.out.other (b' := ga + 1) (by omega) 1 (.int .i64 (((cntL l idF : Nat) : Int) + 1)))
                              have SZ := hideB2 (S6.out.set 1 (cntL l idF + 1) (by show 1 < 4; omega))
                              have HBZ := hideB2 (HB6.out.setCell (p := ⟨ga + 1, 1, none⟩) (by show w.heap.size ≤ ga + 1; omega) (.int .i64 (((cntL l idF : Nat) : Int) + 1)))
                              have s0 : w6.cell? ⟨ga + 1, 1, none⟩ = some (.int .i64 ((cntL l idF : Nat) : Int)) := S6.out.cell 1 (by show 1 < 4; omega)
                              have sf : w6.frozen? ⟨ga + 1, 1, none⟩ = false := S6.out.free 1
                              have f0 := R6.out.free 0
                              have f1 := R6.out.free 1
                              obtain ⟨c0, c1⟩ := C6.out.c2
                              obtain ⟨r0, r1⟩ := R6.out.c2
                              have hF := hideB2 ((hYY.out (by first | rfl | trivial)).trans (finX_bad s hsq _))
                              go_wp2
                              refine bodyPost_ret (results_cellT rfl _ _ _ rfl (RZ.out.set2 _ _) Tryd.underlying25 Tryd.infoCur8) rfl ⟨.inl ⟨hF.out, _, _, rfl⟩, ?_⟩
                              exact (HBZ.out.setCell (p := ⟨w.heap.size + 1, 0, none⟩) (Nat.le_succ _) _).setCell (p := ⟨w.heap.size + 1, 1, none⟩) (Nat.le_succ _) _
                          · rw [brQ_no2 v60] at hsq
                            have hb0 : ¬ ((at8 V 0).toNat : Int) = 60 := by omega
                            clear q1 q2
                            have CZ := hideB2 (C6.out.other (b' := ga + 1) (by omega) 1 (.int .i64 (((cntL l idF : Nat) : Int) + 1)))
                            have RZ := hideB2 (R6.out.other (b' := ga + 1) (by omega) 1 (.int .i64 (((cntL l idF : Nat) : Int) + 1)))
                            have AZ := hideB2 (A6.out.other (b' := ga + 1) (by omega) 1 (.int .i64 (((cntL l idF : Nat) : Int) + 1)))
                            have SZ := hideB2 (S6.out.set 1 (cntL l idF + 1) (by show 1 < 4; omega))
                            have HBZ := hideB2 (HB6.out.setCell (p := ⟨ga + 1, 1, none⟩) (by show w.heap.size ≤ ga + 1; omega) (.int .i64 (((cntL l idF : Nat) : Int) + 1)))
                            have s0 : w6.cell? ⟨ga + 1, 1, none⟩ = some (.int .i64 ((cntL l idF : Nat) : Int)) := S6.out.cell 1 (by show 1 < 4; omega)
                            have sf : w6.frozen? ⟨ga + 1, 1, none⟩ = false := S6.out.free 1
                            have f0 := R6.out.free 0
                            have f1 := R6.out.free 1
                            obtain ⟨c0, c1⟩ := C6.out.c2
                            obtain ⟨r0, r1⟩ := R6.out.c2
                            have hF := hideB2 ((hYY.out (by first | rfl | trivial)).trans (finX_bad s hsq _))
                            go_wp2
                            refine bodyPost_ret (results_cellT rfl _ _ _ rfl (RZ.out.set2 _ _) Tryd.underlying25 Tryd.infoCur8) rfl ⟨.inl ⟨hF.out, _, _, rfl⟩, ?_⟩
                            exact (HBZ.out.setCell (p := ⟨w.heap.size + 1, 0, none⟩) (Nat.le_succ _) _).setCell (p := ⟨w.heap.size + 1, 1, none⟩) (Nat.le_succ _) _
                        · rw [brQ_no1 v3] at hsq
                          have y1 : ¬ (3 : Int) ≤ (V.size : Int) := by omega
                          clear q1 q2
                          have CZ := hideB2 (C6.out.other (b' := ga + 1) (by omega) 1 (.int .i64 (((cntL l idF : Nat) : Int) + 1)))
                          have RZ := hideB2 (R6.out.other (b' := ga + 1) (by omega) 1 (.int .i64 (((cntL l idF : Nat) : Int) + 1)))
                          have AZ := hideB2 (A6.out.other (b' := ga + 1) (by omega) 1 (.int .i64 (((cntL l idF : Nat) : Int) + 1)))
                          have SZ := hideB2 (S6.out.set 1 (cntL l idF + 1) (by show 1 < 4; omega))
                          have HBZ := hideB2 (HB6.out.setCell (p := ⟨ga + 1, 1, none⟩) (by show w.heap.size ≤ ga + 1; omega) (.int .i64 (((cntL l idF : Nat) : Int) + 1)))
                          have s0 : w6.cell? ⟨ga + 1, 1, none⟩ = some (.int .i64 ((cntL l idF : Nat) : Int)) := S6.out.cell 1 (by show 1 < 4; omega)
                          have sf : w6.frozen? ⟨ga + 1, 1, none⟩ = false := S6.out.free 1
                          have f0 := R6.out.free 0
                          have f1 := R6.out.free 1
                          obtain ⟨c0, c1⟩ := C6.out.c2
                          obtain ⟨r0, r1⟩ := R6.out.c2
                          have hF := hideB2 ((hYY.out (by first | rfl | trivial)).trans (finX_bad s hsq _))
                          go_wp2
                          refine bodyPost_ret (results_cellT rfl _ _ _ rfl (RZ.out.set2 _ _) Tryd.underlying25 Tryd.infoCur8) rfl ⟨.inl ⟨hF.out, _, _, rfl⟩, ?_⟩
                          exact (HBZ.out.setCell (p := ⟨w.heap.size + 1, 0, none⟩) (Nat.le_succ _) _).setCell (p := ⟨w.heap.size + 1, 1, none⟩) (Nat.le_succ _) _
                  · skip
                    rw [h1] at t1
                    obtain ⟨q1, q2⟩ := cnts_ty (l := l) (x := (N, V)) h1
                    have hsq := spQ_ty (x := (N, V)) h1
                    change spQ (N, V) = tokB V at hsq
                    cases pl
                    · clear hsq q1 q2
                      have CZ := hideB2 (C6.out.other (b' := ga + 1) (by omega) 0 (.int .i64 (((cntL l tyF : Nat) : Int) + 1)))
                      have RZ := hideB2 (R6.out.other (b' := ga + 1) (by omega) 0 (.int .i64 (((cntL l tyF : Nat) : Int) + 1)))
                      have AZ := hideB2 (A6.out.other (b' := ga + 1) (by omega) 0 (.int .i64 (((cntL l tyF : Nat) : Int) + 1)))
                      have SZ := hideB2 (S6.out.set 0 (cntL l tyF + 1) (by show 0 < 4; omega))
                      have HBZ := hideB2 (HB6.out.setCell (p := ⟨ga + 1, 0, none⟩) (by show w.heap.size ≤ ga + 1; omega) (.int .i64 (((cntL l tyF : Nat) : Int) + 1)))
                      have s0 : w6.cell? ⟨ga + 1, 0, none⟩ = some (.int .i64 ((cntL l tyF : Nat) : Int)) := S6.out.cell 0 (by show 0 < 4; omega)
                      have sf : w6.frozen? ⟨ga + 1, 0, none⟩ = false := S6.out.free 0
                      have f0 := R6.out.free 0
                      have f1 := R6.out.free 1
                      obtain ⟨c0, c1⟩ := C6.out.c2
                      obtain ⟨r0, r1⟩ := R6.out.c2
                      have hF := hideB2 (hNN.out (by first | rfl | trivial))
                      go_wp2
                      refine bodyPost_ret (results_cellT rfl _ _ _ rfl (RZ.out.set2 _ _) Tryd.underlying25 Tryd.infoCur8) rfl ⟨.inl ⟨hF.out, _, _, rfl⟩, ?_⟩
                      exact (HBZ.out.setCell (p := ⟨w.heap.size + 1, 0, none⟩) (Nat.le_succ _) _).setCell (p := ⟨w.heap.size + 1, 1, none⟩) (Nat.le_succ _) _
                    · generalize tokB V = tv at *
                      cases tv
                      · clear q1 q2
                        have CZ := hideB2 (C6.out.other (b' := ga + 1) (by omega) 0 (.int .i64 (((cntL l tyF : Nat) : Int) + 1)))
                        have RZ := hideB2 (R6.out.other (b' := ga + 1) (by omega) 0 (.int .i64 (((cntL l tyF : Nat) : Int) + 1)))
                        have AZ := hideB2 (A6.out.other (b' := ga + 1) (by omega) 0 (.int .i64 (((cntL l tyF : Nat) : Int) + 1)))
                        have SZ := hideB2 (S6.out.set 0 (cntL l tyF + 1) (by show 0 < 4; omega))
                        have HBZ := hideB2 (HB6.out.setCell (p := ⟨ga + 1, 0, none⟩) (by show w.heap.size ≤ ga + 1; omega) (.int .i64 (((cntL l tyF : Nat) : Int) + 1)))
                        have s0 : w6.cell? ⟨ga + 1, 0, none⟩ = some (.int .i64 ((cntL l tyF : Nat) : Int)) := S6.out.cell 0 (by show 0 < 4; omega)
                        have sf : w6.frozen? ⟨ga + 1, 0, none⟩ = false := S6.out.free 0
                        have f0 := R6.out.free 0
                        have f1 := R6.out.free 1
                        obtain ⟨c0, c1⟩ := C6.out.c2
                        obtain ⟨r0, r1⟩ := R6.out.c2
                        have hF := hideB2 ((hYY.out (by first | rfl | trivial)).trans (finX_bad s hsq _))
                        go_wp2_with (go_at_call 11; refine (HTV.out _).mono ?_; rintro e w' ⟨rfl, rfl⟩)
                        refine bodyPost_ret (results_cellT rfl _ _ _ rfl (RZ.out.set2 _ _) Tryd.underlying25 Tryd.infoCur8) rfl ⟨.inl ⟨hF.out, _, _, rfl⟩, ?_⟩
                        exact (HBZ.out.setCell (p := ⟨w.heap.size + 1, 0, none⟩) (Nat.le_succ _) _).setCell (p := ⟨w.heap.size + 1, 1, none⟩) (Nat.le_succ _) _
                      · skip
                        have CZ := hideB2 (C6.out.other (b' := ga + 1) (by omega) 0 (.int .i64 (((cntL l tyF : Nat) : Int) + 1)))
                        have RZ := hideB2 (R6.out.other (b' := ga + 1) (by omega) 0 (.int .i64 (((cntL l tyF : Nat) : Int) + 1)))
                        have AZ := hideB2 (A6.out.other (b' := ga + 1) (by omega) 0 (.int .i64 (((cntL l tyF : Nat) : Int) + 1)))
                        have SZ := hideB2 (S6.out.set 0 (cntL l tyF + 1) (by show 0 < 4; omega))
                        have HBZ := hideB2 (HB6.out.setCell (p := ⟨ga + 1, 0, none⟩) (by show w.heap.size ≤ ga + 1; omega) (.int .i64 (((cntL l tyF : Nat) : Int) + 1)))
                        have s0 : w6.cell? ⟨ga + 1, 0, none⟩ = some (.int .i64 ((cntL l tyF : Nat) : Int)) := S6.out.cell 0 (by show 0 < 4; omega)
                        have sf : w6.frozen? ⟨ga + 1, 0, none⟩ = false := S6.out.free 0
                        have hF := hideB2 (hYY.out (by first | rfl | trivial))
                        have Q1 := hideB2 q1
                        have Q2 := hideB2 q2
                        have HGT := hideB2 hgt
                        have HE2 := hideB2 hE
                        have HSP := hideB2 hsq
                        clear q1 q2 hsq
                        go_wp2_with (go_at_call 11; refine (HTV.out _).mono ?_; rintro e w' ⟨rfl, rfl⟩)
                        refine ⟨⟨E + 2, l ++ [(N, V)], HE2.out, ?_, ?_, CZ.out, RZ.out, ?_, ?_, HBZ.out, hF, ?_⟩, ?_⟩
                        · have := HL.out; have := HGT.out; rw [List.length_append]; simp; omega
                        · rw [Q2.out]
                        · have := AZ.out
                          rw [show ((E + 2 : Nat) : Int) = (E : Int) + 2 by omega]
                          exact this
                        · rw [Q1.out]
                          have := SZ.out
                          rw [show (((cntL l tyF + 1 : Nat)) : Int) = ((cntL l tyF : Nat) : Int) + 1 by omega] at this
                          exact this
                        · intro x hx
                          rcases List.mem_append.1 hx with h | h
                          · exact hgood.out x h
                          · rw [List.mem_singleton.1 h]; exact HSP.out
                        · have hA9 := AZ.out
                          rw [show ((E : Int) + 2) = ((E + 2 : Nat) : Int) by omega] at hA9
                          have hB1 := HGT.out
                          have hB2 := HE2.out
                          rw [curAt_blk hA9, HM.out]
                          omega
              · rw [decide_eq_false hlt] at u1
                have hF := hideB2 (hN.out (by rw [hlo, u1]; rfl))
                have hss : (((uptS 58 (lineAt s k)).size : Int) == ((lineAt s k).size : Int)) = true := by rw [beq_iff_eq]; omega
                have hsp : ((uptS 58 (lineAt s k)).size : Int) = ((lineAt s k).size : Int) := by omega
                clear hN hY u1 u2 z1 z2 z3 hlo hvz hlt HTO HTR HFO
                generalize uptS 58 (lineAt s k) = U at *
                generalize lineAt s k = L at *
                generalize tlE s k = E at *
                go_wp2_with fail
                clear p0 p1
                refine (HTK.out _).mono ?_
                rintro e w4 ⟨rfl, hb4⟩
                have C4 := hideB2 (C3.out.later hb4)
                have R4 := hideB2 (R3.out.later hb4)
                have A4 := hideB2 (A3.out.later hb4)
                have S4 := hideB2 (S3.out.keep hb4)
                have HB4 := hideB2 (below_then HB3.out hb4)
                have hl4 := hb4.size
                clear hb4
                have hgne : w4.heap.size ≠ ga := by omega
                have hgne' : ga ≠ w4.heap.size := by omega
                have hg4 := A4.out.lt
                have dd1 : w.heap.size ≠ ga := by omega
                have dd2 : w.heap.size + 1 ≠ ga := by omega
                have dd3 : ga ≠ w.heap.size := by omega
                have dd4 : ga ≠ w.heap.size + 1 := by omega
                obtain ⟨q0, q1⟩ := A4.out.c2
                have m0 := A4.out.free 0
                have m1 := A4.out.free 1
                have C5 := hideB2 ((C4.out.oth2 (g := ga) (by omega) (.string s) (.int .i64 ((E : Int) + 2))).alloc (.cells #[.string s, .int .i64 ((E : Int) + 2)] 25))
                have R5 := hideB2 ((R4.out.oth2 (g := ga) (by omega) (.string s) (.int .i64 ((E : Int) + 2))).alloc (.cells #[.string s, .int .i64 ((E : Int) + 2)] 25))
                have A5 := hideB2 ((A4.out.set2 (.string s) (.int .i64 ((E : Int) + 2))).alloc (.cells #[.string s, .int .i64 ((E : Int) + 2)] 25))
                have S5 := hideB2 (((S4.out.oth (g := ga) (by omega) 0 (.string s)).oth (g := ga) (by omega) 1 (.int .i64 ((E : Int) + 2))).keep (below_a1 _ (.cells #[.string s, .int .i64 ((E : Int) + 2)] 25)))
                have HB5 := hideB2 (below_then (below_set2 HB4.out (by omega) (.string s) (.int .i64 ((E : Int) + 2))) (below_a1 ((w4.setCell ⟨ga, 0, none⟩ (.string s)).setCell ⟨ga, 1, none⟩ (.int .i64 ((E : Int) + 2))) (.cells #[.string s, .int .i64 ((E : Int) + 2)] 25)))
                have f0 := R5.out.free 0
                have f1 := R5.out.free 1
                obtain ⟨c0, c1⟩ := C5.out.c2
                obtain ⟨r0, r1⟩ := R5.out.c2
                go_wp2_with (go_at_call 10; refine (HUP.out _).mono ?_; rintro e w' ⟨rfl, rfl⟩)
                refine bodyPost_ret (results_cellT rfl _ _ _ rfl (R5.out.set2 _ _) Tryd.underlying25 Tryd.infoCur8) rfl ⟨.inl ⟨hF.out, _, _, rfl⟩, ?_⟩
                exact (HB5.out.setCell (p := ⟨w.heap.size + 1, 0, none⟩) (Nat.le_succ _) _).setCell (p := ⟨w.heap.size + 1, 1, none⟩) (Nat.le_succ _) _
        · obtain ⟨c, hc, hvv⟩ := tlV_not h1
          rw [hvv] at HTK
          unfold curZ at HTK
          have hF := hideB2 (show X = none by rw [hx.out, lsF_bad hk (by unfold lkQ; rw [decide_eq_false h1]; rfl)]; rfl)
          clear hvv h1 hx
          go_wp2_with fail
          clear p0 p1
          refine (HTK.out _).mono ?_
          rintro e w4 ⟨rfl, hb4⟩
          have C4 := hideB2 (C3.out.later hb4)
          have R4 := hideB2 (R3.out.later hb4)
          have A4 := hideB2 (A3.out.later hb4)
          have S4 := hideB2 (S3.out.keep hb4)
          have HB4 := hideB2 (below_then HB3.out hb4)
          have hl4 := hb4.size
          clear hb4
          have C5 := hideB2 (C4.out.alloc (.cells #[.string ⟨#[]⟩, .int .i64 0] 25))
          have R5 := hideB2 (R4.out.alloc (.cells #[.string ⟨#[]⟩, .int .i64 0] 25))
          have HB5 := hideB2 (below_then HB4.out (below_a1 w4 (.cells #[.string ⟨#[]⟩, .int .i64 0] 25)))
          have f0 := R5.out.free 0
          have f1 := R5.out.free 1
          obtain ⟨c0, c1⟩ := C5.out.c2
          obtain ⟨r0, r1⟩ := R5.out.c2
          go_wp2
          refine bodyPost_ret (results_cellT rfl _ _ _ rfl (R5.out.set2 _ _) Tryd.underlying25 Tryd.infoCur8) rfl ⟨.inl ⟨hF.out, _, _, rfl⟩, ?_⟩
          exact (HB5.out.setCell (p := ⟨w.heap.size + 1, 0, none⟩) (Nat.le_succ _) _).setCell (p := ⟨w.heap.size + 1, 1, none⟩) (Nat.le_succ _) _

  · obtain ⟨c, hc, hvv⟩ := tlV_not h1
    rw [hvv] at HTL
    unfold curZ at HTL
    have hF := hideB2 (show X = none by rw [← HX.out, grF_bad (by unfold grV; rw [decide_eq_false h1]; rfl)]; rfl)
    clear hvv h1 hv
    go_enter Tryd.func6, Tryd.ntmps6
    go_wp2_with fail
    refine (HTL.out _).mono ?_
    rintro e w1 ⟨rfl, hb1⟩
    have C1 := hideB2 ((C0.out.later hb1).alloc (.cells #[.string ⟨#[]⟩, .int .i64 0] 25))
    have R1 := hideB2 ((R0.out.later hb1).alloc (.cells #[.string ⟨#[]⟩, .int .i64 0] 25))
    have HB1 := hideB2 (below_then (below_then HB0.out hb1) (below_a1 w1 (.cells #[.string ⟨#[]⟩, .int .i64 0] 25)))
    clear hb1
    have f0 := R1.out.free 0
    have f1 := R1.out.free 1
    obtain ⟨c0, c1⟩ := C1.out.c2
    obtain ⟨r0, r1⟩ := R1.out.c2
    go_wp2
    refine bodyPost_ret (results_cellT rfl _ _ _ rfl (R1.out.set2 _ _) Tryd.underlying25 Tryd.infoCur8) rfl ⟨.inl ⟨hF.out, _, _, rfl⟩, ?_⟩
    exact (HB1.out.setCell (p := ⟨w.heap.size + 1, 0, none⟩) (Nat.le_succ _) _).setCell (p := ⟨w.heap.size + 1, 1, none⟩) (Nat.le_succ _) _
end Go.Proofs.YtffjpidjhcnnmabDoor
