/-
  Chapter 8: a looser reader's record, how many there are; the program's side.
-/
import Derived.Test.YtffjpidjhcnnmabDoorR9
import Derived.Test.YtffjpidjhcnnmabDoorW11b
namespace Go.Proofs.YtffjpidjhcnnmabDoor
set_option linter.unusedVariables false
set_option linter.unusedSimpArgs false
open Go.RowKit
theorem ver_eq (L : ByteArray) : (L.toList == [87, 65, 82, 67, 47, 49, 46, 49]) = eqB L verB := by
  unfold eqB
  rw [ByteArray.toList_eq verB]
  rfl
theorem end_eq (L : ByteArray) : (L.toList == [13, 10, 13, 10]) = eqB L crlf2B := by
  unfold eqB
  rw [ByteArray.toList_eq crlf2B]
  rfl
theorem grF_bad {s : ByteArray} {k : Nat} (h : grV s k = false) : grF s k = none := by unfold grF; rw [if_neg (by rw [h]; decide)]
theorem grF_lines {s : ByteArray} {k : Nat} (h : grV s k = true) (h2 : lsF s (tlE s k + 2) = none) : grF s k = none := by unfold grF; rw [if_pos h, h2]; rfl
theorem grF_fin {s : ByteArray} {k : Nat} {l : List Fd} {e : Nat} (h : grV s k = true) (h2 : lsF s (tlE s k + 2) = some (l, e)) : grF s k = (finR s l e).map fun q => (l, q.1, q.2) := by unfold grF; rw [if_pos h, h2]; rfl
theorem finR_no1 {s : ByteArray} {l : List Fd} {e : Nat} (h : sizeO l = false) : finR s l e = none := by unfold finR; rw [if_neg (by rw [h]; simp)]
theorem finR_no2 {s : ByteArray} {l : List Fd} {e : Nat} (h : ¬ (e : Int) + sizeN l + 4 ≤ (s.size : Int)) : finR s l e = none := by unfold finR; rw [if_neg (fun hh => h hh.2.1)]
theorem finR_no3 {s : ByteArray} {l : List Fd} {e : Nat} (h : eqB (s.extract (e + (sizeN l).toNat) (e + (sizeN l).toNat + 4)) crlf2B = false) : finR s l e = none := by unfold finR; rw [if_neg (fun hh => by rw [h] at hh; exact absurd hh.2.2 (by decide))]
theorem finR_yes {s : ByteArray} {l : List Fd} {e : Nat} (h1 : sizeO l = true) (h2 : (e : Int) + sizeN l + 4 ≤ (s.size : Int)) (h3 : eqB (s.extract (e + (sizeN l).toNat) (e + (sizeN l).toNat + 4)) crlf2B = true) : finR s l e = some (s.extract e (e + (sizeN l).toNat), e + (sizeN l).toNat + 4) := by unfold finR; rw [if_pos ⟨h1, h2, h3⟩]
theorem ext_ext (s : ByteArray) (e n m : Nat) (h : e + n + m ≤ s.size) : (s.extract e (e + (n + m))).extract n (n + m) = s.extract (e + n) (e + n + m) ∧ (s.extract e (e + (n + m))).extract 0 n = s.extract e (e + n) ∧ (s.extract e (e + (n + m))).size = n + m := by
  refine ⟨?_, ?_, ?_⟩
  · apply bytes_ext
    rw [extract_list, extract_list, extract_list]
    apply List.ext_getElem?
    intro i
    simp only [List.getElem?_drop, List.getElem?_take]
    by_cases hi : i < m
    · rw [if_pos (by omega), if_pos (by omega), if_pos (by omega)]
      congr 1; omega
    · rw [if_neg (by omega), if_neg (by omega)]
  · apply bytes_ext
    rw [extract_list, extract_list, extract_list]
    apply List.ext_getElem?
    intro i
    simp only [List.getElem?_drop, List.getElem?_take]
    by_cases hi : i < n
    · rw [if_pos (by omega), if_pos (by omega), if_pos (by omega)]
      congr 1; omega
    · rw [if_neg (by omega), if_neg (by omega)]
  · rw [ByteArray.size_extract]; omega
set_option maxRecDepth 100000 in
set_option maxHeartbeats 8000000 in
theorem takeLoose_any (s : ByteArray) (k : Nat) (w : World) (hs : s.size ≤ 1048576) (hk : k ≤ s.size) (hM : MonTab w) :
    Calls Tryd.prog 8 #[.agg #[.string s, .int .i64 (k : Int)]] w fun e w' => ((grF s k = none ∧ e = .returned (.tuple #[.agg #[.slice none 0 0, .string ⟨#[]⟩], .agg #[.string ⟨#[]⟩, .int .i64 0], .bool false])) ∨ (∃ l b k' v, grF s k = some (l, b, k') ∧ e = .returned (.tuple #[.agg #[v, .string b], .agg #[.string s, .int .i64 ((k' : Nat) : Int)], .bool true]) ∧ SlW w' v l ∧ ∀ g, v.ownBlock = some g → w.heap.size ≤ g)) ∧ Below w.heap.size w w' := by
  have hsm : s.size ≤ maxLen := by unfold maxLen; omega
  generalize hX : grF s k = X
  have HX := hideB2 hX
  have HMT := hideB2 hM
  have HS := hideB2 hs
  have HTL := hideB2 (fun W => TakeLine_ok s k W hsm hk)
  have HB0 := hideB2 (below_a3 w (.cells #[.string s, .int .i64 (k : Int)] 25) (.cells #[.slice none 0 0, .string ⟨#[]⟩] 31) (.cells #[.string ⟨#[]⟩, .int .i64 0] 25))
  have A0 := hideB2 (blk_a w #[.string s, .int .i64 (k : Int)] 25 (.cells #[.slice none 0 0, .string ⟨#[]⟩] 31) (.cells #[.string ⟨#[]⟩, .int .i64 0] 25))
  have L0 := hideB2 (blk_b w #[.slice none 0 0, .string ⟨#[]⟩] 31 (.cells #[.string s, .int .i64 (k : Int)] 25) (.cells #[.string ⟨#[]⟩, .int .i64 0] 25))
  have R0 := hideB2 (blk_c w #[.string ⟨#[]⟩, .int .i64 0] 25 (.cells #[.string s, .int .i64 (k : Int)] 25) (.cells #[.slice none 0 0, .string ⟨#[]⟩] 31))
  clear hX hs hM
  by_cases h1 : tlC s k = 0
  · have hE := tlE_ok hk h1
    have hz := lineAt_size hk
    rw [tlV_ok h1] at HTL
    change Hid (∀ W, Calls _ _ _ W fun e w' => e = .returned (.tuple #[.string (lineAt s k), .agg #[.string s, .int .i64 ((tlE s k : Int) + 2)], .int .i64 0]) ∧ Below W.heap.size W w') at HTL
    have hv := ver_eq (lineAt s k)
    have hgv : grV s k = eqB (lineAt s k) verB := by unfold grV; rw [decide_eq_true h1, Bool.true_and]
    have hLz : Hid ((lineAt s k).size ≤ 1048576) := by show (lineAt s k).size ≤ 1048576; have := HS.out; omega
    rw [← hgv] at hv
    cases hq : grV s k
    · have hF := hideB2 (show X = none from HX.out.symm.trans (grF_bad hq))
      rw [hq] at hv
      clear hgv hz hq h1
      generalize lineAt s k = L at *
      generalize tlE s k = E at *
      go_enter Tryd.func8, Tryd.ntmps8
      go_wp2_with fail
      refine (HTL.out _).mono ?_
      rintro e w1 ⟨rfl, hb1⟩
      have A1 := hideB2 (A0.out.later hb1)
      have L1 := hideB2 (L0.out.later hb1)
      have R1 := hideB2 (R0.out.later hb1)
      have HB1 := hideB2 (below_then HB0.out hb1)
      clear hb1
      have a0 := A1.out.free 0
      have a1 := A1.out.free 1
      obtain ⟨p0, p1⟩ := A1.out.c2
      have A2 := hideB2 (A1.out.set2 (.string s) (.int .i64 ((E : Int) + 2)))
      have L2 := hideB2 (L1.out.oth2 (g := w.heap.size) (by omega) (.string s) (.int .i64 ((E : Int) + 2)))
      have R2 := hideB2 (R1.out.oth2 (g := w.heap.size) (by omega) (.string s) (.int .i64 ((E : Int) + 2)))
      have HB2 := hideB2 ((HB1.out.setCell (p := ⟨w.heap.size, 0, none⟩) (Nat.le_refl _) (.string s)).setCell (p := ⟨w.heap.size, 1, none⟩) (Nat.le_refl _) (.int .i64 ((E : Int) + 2)))
      have f0 := L1.out.free 0
      have f1 := L1.out.free 1
      obtain ⟨l0, l1⟩ := L1.out.c2
      have g0 := R1.out.free 0
      have g1 := R1.out.free 1
      obtain ⟨r0, r1⟩ := R1.out.c2
      go_wp2
      refine bodyPost_ret (results_CCt rfl _ _ _ rfl ((L2.out.set2 _ _).oth2 (by omega) _ _) rfl ((R2.out.oth2 (by omega) _ _).set2 _ _) Tryd.underlying31 Tryd.infoLr Tryd.underlying25 Tryd.infoCur8) rfl ⟨.inl ⟨hF.out, rfl⟩, ?_⟩
      exact (((HB2.out.setCell (p := ⟨w.heap.size + 1, 0, none⟩) (by show w.heap.size ≤ w.heap.size + 1; omega) _).setCell (p := ⟨w.heap.size + 1, 1, none⟩) (by show w.heap.size ≤ w.heap.size + 1; omega) _).setCell (p := ⟨w.heap.size + 2, 0, none⟩) (by show w.heap.size ≤ w.heap.size + 2; omega) _).setCell (p := ⟨w.heap.size + 2, 1, none⟩) (by show w.heap.size ≤ w.heap.size + 2; omega) _
    · have hE2 : ((tlE s k + 2 : Nat) : Int) = (tlE s k : Int) + 2 := by omega
      have HLS := hideB2 (fun W => takeLooseLines_any s (tlE s k + 2) W HS.out hE)
      rw [hE2] at HLS
      have hG1 := hideB2 (fun h => HX.out.symm.trans (grF_lines (s := s) (k := k) hq h))
      have hG2 := hideB2 (fun l e h => HX.out.symm.trans (grF_fin (s := s) (k := k) (l := l) (e := e) hq h))
      have hLe := hideB2 (fun l e h => lsF_le (s := s) (k := tlE s k + 2) (l := l) (e := e) hE h)
      rw [hq] at hv
      clear hgv hz hq h1 hE2
      generalize hLF : lsF s (tlE s k + 2) = LF at *
      clear hLF hE
      generalize lineAt s k = L at *
      generalize tlE s k = E at *
      go_enter Tryd.func8, Tryd.ntmps8
      go_wp2_with fail
      refine (HTL.out _).mono ?_
      rintro e w1 ⟨rfl, hb1⟩
      have A1 := hideB2 (A0.out.later hb1)
      have L1 := hideB2 (L0.out.later hb1)
      have R1 := hideB2 (R0.out.later hb1)
      have HB1 := hideB2 (below_then HB0.out hb1)
      clear hb1
      have a0 := A1.out.free 0
      have a1 := A1.out.free 1
      obtain ⟨p0, p1⟩ := A1.out.c2
      have A2 := hideB2 (A1.out.set2 (.string s) (.int .i64 ((E : Int) + 2)))
      have L2 := hideB2 (L1.out.oth2 (g := w.heap.size) (by omega) (.string s) (.int .i64 ((E : Int) + 2)))
      have R2 := hideB2 (R1.out.oth2 (g := w.heap.size) (by omega) (.string s) (.int .i64 ((E : Int) + 2)))
      have HB2 := hideB2 ((HB1.out.setCell (p := ⟨w.heap.size, 0, none⟩) (Nat.le_refl _) (.string s)).setCell (p := ⟨w.heap.size, 1, none⟩) (Nat.le_refl _) (.int .i64 ((E : Int) + 2)))
      go_wp2_with fail
      clear p0 p1 a0 a1
      refine (HLS.out _).mono ?_
      rintro e w3 ⟨hres, hb3⟩
      have A3 := hideB2 (A2.out.later hb3)
      have L3 := hideB2 (L2.out.later hb3)
      have R3 := hideB2 (R2.out.later hb3)
      have HB3 := hideB2 (below_then HB2.out hb3)
      clear hb3
      rcases hres with ⟨rfl, rfl⟩ | ⟨l, e2, v, rfl, rfl, hsl, hown⟩
      · have hF := hideB2 (hG1.out rfl)
        have a0 := A3.out.free 0
        have a1 := A3.out.free 1
        obtain ⟨p0, p1⟩ := A3.out.c2
        have A4 := hideB2 (A3.out.set2 (.string ⟨#[]⟩) (.int .i64 0))
        have L4 := hideB2 (L3.out.oth2 (g := w.heap.size) (by omega) (.string ⟨#[]⟩) (.int .i64 0))
        have R4 := hideB2 (R3.out.oth2 (g := w.heap.size) (by omega) (.string ⟨#[]⟩) (.int .i64 0))
        have HB4 := hideB2 ((HB3.out.setCell (p := ⟨w.heap.size, 0, none⟩) (Nat.le_refl _) (.string ⟨#[]⟩)).setCell (p := ⟨w.heap.size, 1, none⟩) (Nat.le_refl _) (.int .i64 0))
        have f0 := L3.out.free 0
        have f1 := L3.out.free 1
        obtain ⟨l0, l1⟩ := L3.out.c2
        have g0 := R3.out.free 0
        have g1 := R3.out.free 1
        obtain ⟨r0, r1⟩ := R3.out.c2
        go_wp2
        refine bodyPost_ret (results_CCt rfl _ _ _ rfl ((L4.out.set2 _ _).oth2 (by omega) _ _) rfl ((R4.out.oth2 (by omega) _ _).set2 _ _) Tryd.underlying31 Tryd.infoLr Tryd.underlying25 Tryd.infoCur8) rfl ⟨.inl ⟨hF.out, rfl⟩, ?_⟩
        exact (((HB4.out.setCell (p := ⟨w.heap.size + 1, 0, none⟩) (by show w.heap.size ≤ w.heap.size + 1; omega) _).setCell (p := ⟨w.heap.size + 1, 1, none⟩) (by show w.heap.size ≤ w.heap.size + 1; omega) _).setCell (p := ⟨w.heap.size + 2, 0, none⟩) (by show w.heap.size ≤ w.heap.size + 2; omega) _).setCell (p := ⟨w.heap.size + 2, 1, none⟩) (by show w.heap.size ≤ w.heap.size + 2; omega) _
      · have hG := hideB2 (hG2.out l e2 rfl)
        obtain ⟨hle1, hle2, hle3⟩ := hLe.out l e2 rfl
        have HSL := hideB2 hsl
        clear hG1 hG2 hLe hsl
        have hll : l.length ≤ 1048576 := by have := HS.out; omega
        have HSZ := hideB2 (fun W (h : SlW W v l) (h2 : MonTab W) => size_any v l ⟨#[]⟩ W h hll hle3 h2)
        have HLE1 := hideB2 hle1
        have hw1 := HB1.out.size
        have hnev := hideB2 (show v.ownBlock ≠ some w.heap.size by
          intro hh
          have h9 := hown _ hh
          have h8 : ((w1.setCell ⟨w.heap.size, 0, none⟩ (.string s)).setCell ⟨w.heap.size, 1, none⟩ (.int .i64 ((E : Int) + 2))).heap.size = w1.heap.size := by simp [World.setCell]
          have h7 := R1.out.lt
          omega)
        have hne9 := hideB2 (fun g (hh : v.ownBlock = some g) => show w.heap.size + 2 < g by
          have h9 := hown _ hh
          have h8 : ((w1.setCell ⟨w.heap.size, 0, none⟩ (.string s)).setCell ⟨w.heap.size, 1, none⟩ (.int .i64 ((E : Int) + 2))).heap.size = w1.heap.size := by simp [World.setCell]
          have h7 := R1.out.lt
          omega)
        have hltv := hideB2 (show v.ownBlock ≠ some w3.heap.size by
          intro hh
          rcases HSL.out with ⟨h9, _⟩ | ⟨b, c, h9, h8⟩
          · rw [h9] at hh; cases hh
          · rw [h9] at hh
            have h7 := h8.lt
            have h6 : b = w3.heap.size := by injection hh
            omega)
        clear hle3 hll hle2 hown
        obtain ⟨va, vc, hvf⟩ := HSL.out.form
        generalize l.length = m at hvf
        subst hvf
        have a0 := A3.out.free 0
        have a1 := A3.out.free 1
        obtain ⟨p0, p1⟩ := A3.out.c2
        have A4 := hideB2 (A3.out.set2 (.string s) (.int .i64 ((e2 : Nat) : Int)))
        have L4 := hideB2 (L3.out.oth2 (g := w.heap.size) (by omega) (.string s) (.int .i64 ((e2 : Nat) : Int)))
        have R4 := hideB2 (R3.out.oth2 (g := w.heap.size) (by omega) (.string s) (.int .i64 ((e2 : Nat) : Int)))
        have HB4 := hideB2 ((HB3.out.setCell (p := ⟨w.heap.size, 0, none⟩) (Nat.le_refl _) (.string s)).setCell (p := ⟨w.heap.size, 1, none⟩) (Nat.le_refl _) (.int .i64 ((e2 : Nat) : Int)))
        have hsz4 : ((w3.setCell ⟨w.heap.size, 0, none⟩ (.string s)).setCell ⟨w.heap.size, 1, none⟩ (.int .i64 ((e2 : Nat) : Int))).heap.size = w3.heap.size := by simp [World.setCell]
        have V4 := hideB2 ((HSL.out.set hnev.out 0 (.string s)).set hnev.out 1 (.int .i64 ((e2 : Nat) : Int)))
        have N5 := hideB2 (Blk.new ((w3.setCell ⟨w.heap.size, 0, none⟩ (.string s)).setCell ⟨w.heap.size, 1, none⟩ (.int .i64 ((e2 : Nat) : Int))) #[.slice va m vc, .string ⟨#[]⟩] 31)
        rw [hsz4] at N5
        have hb5 := hideB2 (below_a1 ((w3.setCell ⟨w.heap.size, 0, none⟩ (.string s)).setCell ⟨w.heap.size, 1, none⟩ (.int .i64 ((e2 : Nat) : Int))) (.cells #[.slice va m vc, .string ⟨#[]⟩] 31))
        have A5 := hideB2 (A4.out.later hb5.out)
        have L5 := hideB2 (L4.out.later hb5.out)
        have R5 := hideB2 (R4.out.later hb5.out)
        have V5 := hideB2 (V4.out.keep hb5.out)
        have HB5 := hideB2 (below_then HB4.out hb5.out)
        clear hb5 hsz4
        have hR3 := R3.out.lt
        go_wp2_with fail
        clear p0 p1 a0 a1
        refine (HSZ.out _ V5.out (HMT.out.below HB5.out)).mono ?_
        rintro e w6 ⟨rfl, hb6⟩
        have N6 := hideB2 (N5.out.later hb6)
        have V6 := hideB2 (V5.out.keep hb6)
        have A6 := hideB2 (A5.out.later hb6)
        have L6 := hideB2 (L5.out.later hb6)
        have R6 := hideB2 (R5.out.later hb6)
        have HB6 := hideB2 (below_then HB5.out hb6)
        clear hb6
        have hbn := rdecN_le (onlyV l lenF)
        have hbn0 := sizeN_nonneg l
        change sizeN l ≤ 999999999999999 at hbn
        have hN1 := hideB2 (fun h => hG.out.trans (by rw [finR_no1 (s := s) (l := l) (e := e2) h]))
        have hN2 := hideB2 (fun h => hG.out.trans (by rw [finR_no2 (s := s) (l := l) (e := e2) h]))
        have hN3 := hideB2 (fun h => hG.out.trans (by rw [finR_no3 (s := s) (l := l) (e := e2) h]))
        have hN4 := hideB2 (fun h h' h'' => hG.out.trans (by rw [finR_yes (s := s) (l := l) (e := e2) h h' h'']))
        clear hG HSZ
        generalize sizeN l = n at *
        generalize sizeO l = ok at *
        cases ok
        · have hF := hideB2 (show X = none from hN1.out rfl)
          clear hN1 hN2 hN3 hN4
          have f0 := L6.out.free 0
          have f1 := L6.out.free 1
          obtain ⟨l0, l1⟩ := L6.out.c2
          have g0 := R6.out.free 0
          have g1 := R6.out.free 1
          obtain ⟨r0, r1⟩ := R6.out.c2
          go_wp2
          refine bodyPost_ret (results_CCt rfl _ _ _ rfl ((L6.out.set2 _ _).oth2 (by omega) _ _) rfl ((R6.out.oth2 (by omega) _ _).set2 _ _) Tryd.underlying31 Tryd.infoLr Tryd.underlying25 Tryd.infoCur8) rfl ⟨.inl ⟨hF.out, rfl⟩, ?_⟩
          exact (((HB6.out.setCell (p := ⟨w.heap.size + 1, 0, none⟩) (by show w.heap.size ≤ w.heap.size + 1; omega) _).setCell (p := ⟨w.heap.size + 1, 1, none⟩) (by show w.heap.size ≤ w.heap.size + 1; omega) _).setCell (p := ⟨w.heap.size + 2, 0, none⟩) (by show w.heap.size ≤ w.heap.size + 2; omega) _).setCell (p := ⟨w.heap.size + 2, 1, none⟩) (by show w.heap.size ≤ w.heap.size + 2; omega) _
        · obtain ⟨nn, rfl⟩ := Int.eq_ofNat_of_zero_le hbn0
          have e4 : IntKind.i64.wrap ((nn : Int) + 4) = (nn : Int) + 4 := by rw [IntKind.wrap_i64]; omega
          have HTN := hideB2 (fun W => TakeN_any s (e2 : Int) ((nn : Int) + 4) W hsm (by omega))
          by_cases hfit : (e2 : Int) + (nn : Int) + 4 ≤ (s.size : Int)
          · have hx1 := ext_ext s e2 nn 4 (by omega)
            obtain ⟨x1, x2, x3⟩ := hx1
            rw [show ((nn : Int) + 4) = ((nn + 4 : Nat) : Int) by omega, tnV_yes (s := s) (k := e2) (m := nn + 4) (by omega)] at HTN
            rw [show ((nn + 4 : Nat) : Int) = (nn : Int) + 4 by omega] at HTN
            have hend := end_eq (s.extract (e2 + nn) (e2 + nn + 4))
            have hN3' := hideB2 (fun h => hN3.out (by rw [Int.toNat_natCast]; exact h))
            have hN4' := hideB2 (fun h => hN4.out rfl hfit (by rw [Int.toNat_natCast]; exact h))
            rw [Int.toNat_natCast] at hN4'
            have c1 : (0 : Int) ≤ (nn : Int) := by omega
            have c2 : (nn : Int) ≤ (((s.extract e2 (e2 + (nn + 4))).size : Nat) : Int) := by rw [x3]; omega
            have c3 : nn ≤ nn + 4 := by omega
            clear hN1 hN2 hN3 hN4 hbn hbn0
            generalize hD : s.extract e2 (e2 + (nn + 4)) = D at *
            generalize hBk : s.extract e2 (e2 + nn) = Bk at *
            generalize hEn : s.extract (e2 + nn) (e2 + nn + 4) = En at *
            clear hD hBk hEn
            have x1' : D.extract nn D.size = En := by rw [x3]; exact x1
            clear x3
            obtain ⟨q0, q1⟩ := A6.out.c2
            go_wp2_with fail
            refine (HTN.out _).mono ?_
            rintro e w7 ⟨rfl, hb7⟩
            have N7 := hideB2 (N6.out.later hb7)
            have V7 := hideB2 (V6.out.keep hb7)
            clear q0 q1
            have A7 := hideB2 (A6.out.later hb7)
            have L7 := hideB2 (L6.out.later hb7)
            have R7 := hideB2 (R6.out.later hb7)
            have HB7 := hideB2 (below_then HB6.out hb7)
            clear hb7
            have a0 := A7.out.free 0
            have a1 := A7.out.free 1
            obtain ⟨p0, p1⟩ := A7.out.c2
            have A8 := hideB2 (A7.out.set2 (.string s) (.int .i64 ((e2 : Int) + ((nn : Int) + 4))))
            have L8 := hideB2 (L7.out.oth2 (g := w.heap.size) (by omega) (.string s) (.int .i64 ((e2 : Int) + ((nn : Int) + 4))))
            have R8 := hideB2 (R7.out.oth2 (g := w.heap.size) (by omega) (.string s) (.int .i64 ((e2 : Int) + ((nn : Int) + 4))))
            have HB8 := hideB2 ((HB7.out.setCell (p := ⟨w.heap.size, 0, none⟩) (Nat.le_refl _) (.string s)).setCell (p := ⟨w.heap.size, 1, none⟩) (Nat.le_refl _) (.int .i64 ((e2 : Int) + ((nn : Int) + 4))))
            have hN7 := N7.out.lt
            have hR7 := R7.out.lt
            cases hq2 : eqB En crlf2B
            · have hF := hideB2 (show X = none from hN3'.out hq2)
              rw [hq2] at hend
              clear hN3' hN4' hq2
              have f0 := L7.out.free 0
              have f1 := L7.out.free 1
              obtain ⟨l0, l1⟩ := L7.out.c2
              have g0 := R7.out.free 0
              have g1 := R7.out.free 1
              obtain ⟨r0, r1⟩ := R7.out.c2
              go_wp2
              refine bodyPost_ret (results_CCt rfl _ _ _ rfl ((L8.out.set2 _ _).oth2 (by omega) _ _) rfl ((R8.out.oth2 (by omega) _ _).set2 _ _) Tryd.underlying31 Tryd.infoLr Tryd.underlying25 Tryd.infoCur8) rfl ⟨.inl ⟨hF.out, rfl⟩, ?_⟩
              exact (((HB8.out.setCell (p := ⟨w.heap.size + 1, 0, none⟩) (by show w.heap.size ≤ w.heap.size + 1; omega) _).setCell (p := ⟨w.heap.size + 1, 1, none⟩) (by show w.heap.size ≤ w.heap.size + 1; omega) _).setCell (p := ⟨w.heap.size + 2, 0, none⟩) (by show w.heap.size ≤ w.heap.size + 2; omega) _).setCell (p := ⟨w.heap.size + 2, 1, none⟩) (by show w.heap.size ≤ w.heap.size + 2; omega) _
            · have hF := hideB2 (hN4'.out hq2)
              rw [hq2] at hend
              clear hN3' hN4' hq2
              have N8 := hideB2 (N7.out.oth2 (g := w.heap.size) (by omega) (.string s) (.int .i64 ((e2 : Int) + ((nn : Int) + 4))))
              have V8 := hideB2 ((V7.out.set hnev.out 0 (.string s)).set hnev.out 1 (.int .i64 ((e2 : Int) + ((nn : Int) + 4))))
              obtain ⟨n0, n1⟩ := N7.out.c2
              have m0 := N7.out.free 0
              have m1 := N7.out.free 1
              have f0 := L7.out.free 0
              have f1 := L7.out.free 1
              obtain ⟨l0, l1⟩ := L7.out.c2
              have g0 := R7.out.free 0
              have g1 := R7.out.free 1
              obtain ⟨r0, r1⟩ := R7.out.c2
              go_wp2
              have N9 : Blk (((w7.setCell ⟨w.heap.size, 0, none⟩ (.string s)).setCell ⟨w.heap.size, 1, none⟩ (.int .i64 ((e2 : Int) + ((nn : Int) + 4)))).setCell ⟨w3.heap.size, 1, none⟩ (.string Bk)) w3.heap.size #[.slice va m vc, .string Bk] 31 := N8.out.set 1 (.string Bk)
              have A9 := A8.out.other (b' := w3.heap.size) (by omega) 1 (.string Bk)
              have L9 := L8.out.other (b' := w3.heap.size) (by omega) 1 (.string Bk)
              have R9 := R8.out.other (b' := w3.heap.size) (by omega) 1 (.string Bk)
              have V9 := V8.out.set hltv.out 1 (.string Bk)
              have HB9 := HB8.out.setCell (p := ⟨w3.heap.size, 1, none⟩) (by show w.heap.size ≤ w3.heap.size; omega) (.string Bk)
              clear n0 n1 m0 m1 f0 f1 l0 l1 g0 g1 r0 r1 p0 p1 a0 a1
              generalize ((w7.setCell ⟨w.heap.size, 0, none⟩ (.string s)).setCell ⟨w.heap.size, 1, none⟩ (.int .i64 ((e2 : Int) + ((nn : Int) + 4)))).setCell ⟨w3.heap.size, 1, none⟩ (.string Bk) = W9 at *
              obtain ⟨n0, n1⟩ := N9.c2
              obtain ⟨p0, p1⟩ := A9.c2
              have f0 := L9.free 0
              have f1 := L9.free 1
              obtain ⟨l0, l1⟩ := L9.c2
              have g0 := R9.free 0
              have g1 := R9.free 1
              obtain ⟨r0, r1⟩ := R9.c2
              have HL9 := hideB2 L9
              have HR9 := hideB2 R9
              have HV9 := hideB2 V9
              have HB9' := hideB2 HB9
              clear L9 R9 V9 HB9 N9 A9
              have d1 : w3.heap.size ≠ w.heap.size + 1 := by omega
              have d2 : w3.heap.size ≠ w.heap.size + 1 + 1 := by omega
              have d3 : w.heap.size + 1 ≠ w3.heap.size := by omega
              have d4 : w.heap.size + 1 + 1 ≠ w3.heap.size := by omega
              go_region
              go_wp2
              have hkk : ((e2 + nn + 4 : Nat) : Int) = (e2 : Int) + ((nn : Int) + 4) := by omega
              refine bodyPost_ret (results_CCt rfl _ _ _ rfl ((HL9.out.drew.set2 _ _).oth2 (by omega) _ _) rfl ((HR9.out.drew.oth2 (by omega) _ _).set2 _ _) Tryd.underlying31 Tryd.infoLr Tryd.underlying25 Tryd.infoCur8) rfl ⟨.inr ⟨l, Bk, e2 + nn + 4, _, hF.out, by rw [hkk]; rfl, ?_, ?_⟩, ?_⟩
              · refine ((((HV9.out.keep (Below.refl _ W9).drew).set ?_ 0 _).set ?_ 1 _).set ?_ 0 _).set ?_ 1 _
                all_goals
                  intro hh
                  have := hne9.out _ hh
                  omega
              · intro g hg
                have := hne9.out g hg
                omega
              exact ((((HB9'.out.drew.setCell (p := ⟨w.heap.size + 1, 0, none⟩) (by show w.heap.size ≤ w.heap.size + 1; omega) _).setCell (p := ⟨w.heap.size + 1, 1, none⟩) (by show w.heap.size ≤ w.heap.size + 1; omega) _).setCell (p := ⟨w.heap.size + 2, 0, none⟩) (by show w.heap.size ≤ w.heap.size + 2; omega) _).setCell (p := ⟨w.heap.size + 2, 1, none⟩) (by show w.heap.size ≤ w.heap.size + 2; omega) _)
          · have hF := hideB2 (show X = none from hN2.out hfit)
            rw [tnV_no (s := s) (n := (e2 : Int)) (m := (nn : Int) + 4) (by unfold tnOk; rw [decide_eq_false (show ¬ (nn : Int) + 4 ≤ (s.size : Int) - (e2 : Int) by omega)]; simp)] at HTN
            unfold curZ at HTN
            clear hN1 hN2 hN3 hN4 hbn hbn0 hfit
            obtain ⟨q0, q1⟩ := A6.out.c2
            go_wp2_with fail
            refine (HTN.out _).mono ?_
            rintro e w7 ⟨rfl, hb7⟩
            clear q0 q1
            have A7 := hideB2 (A6.out.later hb7)
            have L7 := hideB2 (L6.out.later hb7)
            have R7 := hideB2 (R6.out.later hb7)
            have HB7 := hideB2 (below_then HB6.out hb7)
            clear hb7
            have a0 := A7.out.free 0
            have a1 := A7.out.free 1
            obtain ⟨p0, p1⟩ := A7.out.c2
            have A8 := hideB2 (A7.out.set2 (.string ⟨#[]⟩) (.int .i64 0))
            have L8 := hideB2 (L7.out.oth2 (g := w.heap.size) (by omega) (.string ⟨#[]⟩) (.int .i64 0))
            have R8 := hideB2 (R7.out.oth2 (g := w.heap.size) (by omega) (.string ⟨#[]⟩) (.int .i64 0))
            have HB8 := hideB2 ((HB7.out.setCell (p := ⟨w.heap.size, 0, none⟩) (Nat.le_refl _) (.string ⟨#[]⟩)).setCell (p := ⟨w.heap.size, 1, none⟩) (Nat.le_refl _) (.int .i64 0))
            have f0 := L7.out.free 0
            have f1 := L7.out.free 1
            obtain ⟨l0, l1⟩ := L7.out.c2
            have g0 := R7.out.free 0
            have g1 := R7.out.free 1
            obtain ⟨r0, r1⟩ := R7.out.c2
            go_wp2
            refine bodyPost_ret (results_CCt rfl _ _ _ rfl ((L8.out.set2 _ _).oth2 (by omega) _ _) rfl ((R8.out.oth2 (by omega) _ _).set2 _ _) Tryd.underlying31 Tryd.infoLr Tryd.underlying25 Tryd.infoCur8) rfl ⟨.inl ⟨hF.out, rfl⟩, ?_⟩
            exact (((HB8.out.setCell (p := ⟨w.heap.size + 1, 0, none⟩) (by show w.heap.size ≤ w.heap.size + 1; omega) _).setCell (p := ⟨w.heap.size + 1, 1, none⟩) (by show w.heap.size ≤ w.heap.size + 1; omega) _).setCell (p := ⟨w.heap.size + 2, 0, none⟩) (by show w.heap.size ≤ w.heap.size + 2; omega) _).setCell (p := ⟨w.heap.size + 2, 1, none⟩) (by show w.heap.size ≤ w.heap.size + 2; omega) _
  · obtain ⟨c, hc, hv⟩ := tlV_not h1
    rw [hv] at HTL
    unfold curZ at HTL
    have hF := hideB2 (show X = none from HX.out.symm.trans (grF_bad (by unfold grV; rw [decide_eq_false h1]; rfl)))
    clear hv h1
    go_enter Tryd.func8, Tryd.ntmps8
    go_wp2_with fail
    refine (HTL.out _).mono ?_
    rintro e w1 ⟨rfl, hb1⟩
    have A1 := hideB2 (A0.out.later hb1)
    have L1 := hideB2 (L0.out.later hb1)
    have R1 := hideB2 (R0.out.later hb1)
    have HB1 := hideB2 (below_then HB0.out hb1)
    clear hb1
    have a0 := A1.out.free 0
    have a1 := A1.out.free 1
    obtain ⟨p0, p1⟩ := A1.out.c2
    have A2 := hideB2 (A1.out.set2 (.string ⟨#[]⟩) (.int .i64 0))
    have L2 := hideB2 (L1.out.oth2 (g := w.heap.size) (by omega) (.string ⟨#[]⟩) (.int .i64 0))
    have R2 := hideB2 (R1.out.oth2 (g := w.heap.size) (by omega) (.string ⟨#[]⟩) (.int .i64 0))
    have HB2 := hideB2 ((HB1.out.setCell (p := ⟨w.heap.size, 0, none⟩) (Nat.le_refl _) (.string ⟨#[]⟩)).setCell (p := ⟨w.heap.size, 1, none⟩) (Nat.le_refl _) (.int .i64 0))
    have f0 := L1.out.free 0
    have f1 := L1.out.free 1
    obtain ⟨l0, l1⟩ := L1.out.c2
    have g0 := R1.out.free 0
    have g1 := R1.out.free 1
    obtain ⟨r0, r1⟩ := R1.out.c2
    go_wp2
    refine bodyPost_ret (results_CCt rfl _ _ _ rfl ((L2.out.set2 _ _).oth2 (by omega) _ _) rfl ((R2.out.oth2 (by omega) _ _).set2 _ _) Tryd.underlying31 Tryd.infoLr Tryd.underlying25 Tryd.infoCur8) rfl ⟨.inl ⟨hF.out, rfl⟩, ?_⟩
    exact (((HB2.out.setCell (p := ⟨w.heap.size + 1, 0, none⟩) (by show w.heap.size ≤ w.heap.size + 1; omega) _).setCell (p := ⟨w.heap.size + 1, 1, none⟩) (by show w.heap.size ≤ w.heap.size + 1; omega) _).setCell (p := ⟨w.heap.size + 2, 0, none⟩) (by show w.heap.size ≤ w.heap.size + 2; omega) _).setCell (p := ⟨w.heap.size + 2, 1, none⟩) (by show w.heap.size ≤ w.heap.size + 2; omega) _
end Go.Proofs.YtffjpidjhcnnmabDoor
