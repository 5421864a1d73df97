/-
  Chapter 6: a head's lines, on lists, and the program's reader of a head. · Contracts of the library's functions at this program, laid off the kit's shelf in plain words. · Plain functions of chapter 1: the elements of a list. No Go in sight. And: a scope with several labels. · The walks over chapter 1: withPiece, Elements. · The walks over chapter 1: impl.Elements, a machine of three labels. · The walks over chapter 1: spec.Elements. · Chapter 5: the values of a name as one text, and its words. Both sides. · How many elements a list can have. · How long the elements of a list are. No Go in sight. · Chapter 6: how a body is bounded, on lists. No Go in sight. · Chapter 6: a message as it is read, on lists. No Go in sight.
-/
import Derived.Test.YtodandipfjamnaaGreatDoorJ6
import Derived.Test.YtodandipfjamnaaGreatDoorJ4
import Derived.WalkMore
import Derived.RegionDies
import Derived.Shelf.Strings.OnBuilder
import Derived.Test.YtodandipfjamnaaGreatDoorProg
import Derived.Test.YtodandipfjamnaaGreatDoorJ0
import Derived.Scope
import Derived.ScopeJumps
import Derived.Test.YtodandipfjamnaaGreatDoorJ2
import Derived.Test.YtodandipfjamnaaGreatDoorJ1
import Derived.Test.YtodandipfjamnaaGreatDoorJ3
import Derived.Test.YtodandipfjamnaaGreatDoorJ5
namespace Go.Proofs.YtodandipfjamnaaGreatDoor
set_option linter.unusedVariables false
set_option linter.unusedSimpArgs false
open Go.RowKit
def hdPost (w : World) (X : Except Int (Fl × List Fd × Nat)) (e : Ending) (w' : World) : Prop :=
  match X with
  | .ok ((a, b, n, r), fs, m) => ∃ v, e = .returned (.tuple #[.agg #[.string a, .string b, .int .i64 n, .string r, .bool false, v, .string ⟨#[]⟩], .int .i64 (m : Int)]) ∧ BufF w w' v fs
  | .error c => e = .panicked (gone c) ∧ Below w.heap.size w w'
/-- How many fields a message holds that lies at g. -/
def fldLen (g : Nat) (w : World) : Nat :=
  match w.cell? ⟨g, 5, none⟩ with
  | some (.slice _ n _) => n
  | _ => 0
set_option maxRecDepth 100000 in
set_option maxHeartbeats 16000000 in
theorem takenHead_any (s : ByteArray) (answer : Bool) (w : World) (hs : s.size ≤ 1048576) (X : Except Int (Fl × List Fd × Nat)) (hX : hdX answer s = X) :
    Calls Tryz.prog 49 #[.string s, .bool answer] w fun e w' => hdPost w X e w' := by
  have HB := hideB2 (below_a1 w (.cells #[.string ⟨#[]⟩, .string ⟨#[]⟩, .int .i64 0, .string ⟨#[]⟩, .bool false, .slice none 0 0, .string ⟨#[]⟩] 24))
  have A1 := hideB2 (Blk.new w #[.string ⟨#[]⟩, .string ⟨#[]⟩, .int .i64 0, .string ⟨#[]⟩, .bool false, .slice none 0 0, .string ⟨#[]⟩] 24)
  have hsm : s.size ≤ maxLen := by unfold maxLen; omega
  by_cases h1 : (4000 : Int) < (s.size : Int)
  · obtain rfl : X = .error 413 := by rw [← hX]; unfold hdX; rw [if_pos (by omega)]
    clear hX
    go_enter Tryz.func49, Tryz.ntmps49
    go_wp2
    go_step3
    go_wp2_with (go_at_call 54; refine (refuseIf_any _ _ _).mono ?_; rintro e w9 ⟨rfl, rfl⟩; simp only [refE])
    exact ⟨rfl, show hdPost w (.error 413) _ _ from ⟨rfl, HB.out⟩⟩
  · have d1 : decide ((4000 : Int) < (s.size : Int)) = false := decide_eq_false h1
    by_cases h2 : hlC s 0 = 0
    · have HL := hideB2 (fun W => headLine_ok s 0 W hsm (Nat.zero_le _) h2)
      have hE := tlE_ok (Nat.zero_le _) (hlC_zero h2).1
      have hz := lineAt_size (s := s) (k := 0) (Nat.zero_le _)
      have hZN := fun h => hdZ_none (answer := answer) (s := s) h
      have hZB := fun (x : Fl) c h h2 => hdZ_bad (answer := answer) (s := s) (x := x) (c := c) h h2
      have hZO := fun (x : Fl) fs m h h2 => hdZ_ok (answer := answer) (s := s) (x := x) (fs := fs) (n := m) h h2
      rw [hdX_go (by omega) h2] at hX
      have HFL := hideB2 (fun W => firstLine_any (lineAt s 0) answer W (by omega) _ rfl)
      have HS := hideB2 hsm
      clear h2 hz hs hsm
      rw [show ((0 : Nat) : Int) = 0 from rfl] at HL
      cases hFX : flX answer (lineAt s 0) with
      | none =>
        rw [hFX] at HFL
        obtain rfl : X = .error 400 := by rw [← hX]; exact hZN hFX
        clear hX hZN hZB hZO hFX
        generalize lineAt s 0 = L at *
        generalize tlE s 0 = E at *
        go_enter Tryz.func49, Tryz.ntmps49
        go_wp2
        go_step3
        go_wp2_with (first
          | (go_at_call 54; refine (refuseIf_any _ _ _).mono ?_; rintro e w9 ⟨rfl, rfl⟩; simp only [refE])
          | (go_at_call 81; refine (HL.out _).mono ?_; rintro e w2 ⟨rfl, hb2⟩)
          | (go_at_call 82; refine (HFL.out _).mono ?_; rintro e w3 ⟨he, hb3⟩; replace he : e = .panicked (gone 400) := he; subst he))
        exact ⟨rfl, show hdPost w (.error 400) _ _ from ⟨rfl, below_then (below_then (below_then HB.out hb2) (below_a1 _ _)) hb3⟩⟩
      | some h =>
        obtain ⟨a, b, n, r⟩ := h
        rw [hFX] at HFL
        generalize hY : lnR s 21 (tlE s 0 + 2) [] = Y at *
        have HY := hideB2 hY
        have HXB := hideB2 (fun c (h : Y = .error c) => (hX.symm.trans (hZB _ c hFX h) : X = .error c))
        have HXO := hideB2 (fun fs m (h : Y = .ok (fs, m)) => (hX.symm.trans (hZO _ fs m hFX h) : X = .ok ((a, b, n, r), fs, m)))
        clear hY hX hZN hZB hZO hFX
        generalize lineAt s 0 = L at *
        have HE := hideB2 hE
        have hcast : (tlE s 0 : Int) + 2 = ((tlE s 0 + 2 : Nat) : Int) := by omega
        rw [hcast] at HL
        clear hcast hE
        generalize tlE s 0 + 2 = K0 at *
        go_enter Tryz.func49, Tryz.ntmps49
        go_wp2
        go_step3
        go_wp2_with (first
          | (go_at_call 54; refine (refuseIf_any _ _ _).mono ?_; rintro e w9 ⟨rfl, rfl⟩; simp only [refE])
          | (go_at_call 81; refine (HL.out _).mono ?_; rintro e w2 ⟨rfl, hb2⟩)
          | (go_at_call 82; refine (HFL.out _).mono ?_; rintro e w3 ⟨he, hb3⟩; replace he : e = .returned (.agg #[.string a, .string b, .int .i64 n, .string r, .bool false, .slice none 0 0, .string ⟨#[]⟩]) := he; subst he))
        have C2 := Blk.new w2 #[.string s, .int .i64 (K0 : Int)] 88
        have M3 := Blk.new w3 #[.string a, .string b, .int .i64 n, .string r, .bool false, .slice none 0 0, .string ⟨#[]⟩] 24
        have hm3 := below_a1 w3 (.cells #[.string a, .string b, .int .i64 n, .string r, .bool false, .slice none 0 0, .string ⟨#[]⟩] 24)
        have hc2 := below_a1 w2 (.cells #[.string s, .int .i64 (K0 : Int)] 88)
        have A3 := (((A1.out.later hb2).later hc2).later hb3).later hm3
        have C3 := (C2.later hb3).later hm3
        have hB3 := below_then (below_then (below_then (below_then HB.out hb2) hc2) hb3) hm3
        have hlt2 := (A1.out.later hb2).lt
        have hlt3 := (C2.later hb3).lt
        have hlt4 := M3.lt
        go_step3
        go_wp2
        generalize hW : w3.alloc (.cells #[.string a, .string b, .int .i64 n, .string r, .bool false, .slice none 0 0, .string ⟨#[]⟩] 24) = W3 at *
        clear hW hm3 hc2 hb2 hb3 C2
        generalize w2.heap.size = G1 at *
        generalize w3.heap.size = G2 at *
        have HA3 := hideB2 A3
        have HC3 := hideB2 C3
        have HM3 := hideB2 M3
        have HB3 := hideB2 hB3
        clear A3 C3 M3 hB3
        generalize hGB : W3.heap.size = GB at *
        have HGB := hideB2 hGB
        clear hGB
        go_loopw [6] (fun _ wr => ∃ (k : Nat) (acc : List Fd) (v : Value), k ≤ s.size ∧ acc.length ≤ 20 ∧ Hid (lnR s (21 - acc.length) k acc = Y) ∧ Blk wr w.heap.size #[.string ⟨#[]⟩, .string ⟨#[]⟩, .int .i64 0, .string ⟨#[]⟩, .bool false, .slice none 0 0, .string ⟨#[]⟩] 24 ∧ Blk wr G1 #[.string s, .int .i64 (k : Int)] 88 ∧ Blk wr G2 #[.string a, .string b, .int .i64 n, .string r, .bool false, v, .string ⟨#[]⟩] 24 ∧ OwF GB wr v acc ∧ Below w.heap.size w wr) (fun _ wr => 21 - fldLen G2 wr)
        case atStart => exact ⟨K0, [], .slice none 0 0, HE.out, Nat.zero_le _, HY.out, HA3.out, HC3.out, HM3.out, OwF.start (by rw [HGB.out]; exact Nat.le_refl _), HB3.out⟩
        case round =>
          obtain ⟨k, acc, v, hk, hacc, hy, ha, hc, hm, hown, hbw⟩ := hrel
          clear HA3 HC3 HM3 HB3
          obtain ⟨va, vc, rfl⟩ := hown.form
          obtain ⟨c0, c1⟩ := hc.c2
          have HA := hideB2 ha
          have HCc := hideB2 hc
          have HM := hideB2 hm
          have HMR := HM
          have HOw := hideB2 hown
          have HBw := hideB2 hbw
          have HN21 := hideB2 (show 21 - acc.length = (20 - acc.length) + 1 by omega)
          clear ha hc hm hown hbw
          by_cases h0 : hlC s k = 0
          · have HL2 := hideB2 (fun W => headLine_ok s k W HS.out hk h0)
            have hE2 := tlE_ok hk (hlC_zero h0).1
            have hn := lenE_nil2 hk
            by_cases he : tlE s k = k
            · obtain rfl : Y = .ok (acc, k + 2) := by rw [← hy.out, HN21.out]; exact lnR_end h0 he
              obtain rfl : X = .ok ((a, b, n, r), acc, k + 2) := HXO.out _ _ rfl
              rw [decide_eq_true he] at hn
              rw [he] at HL2
              clear hy HY HXB HXO h0 he hE2
              generalize lineAt s k = L2 at *
              go_wp2_with fail
              refine (HL2.out _).mono ?_
              rintro e w4 ⟨rfl, hb4⟩
              have C4 := HCc.out.later hb4
              have M4 := HM.out.later hb4
              have A4 := HA.out.later hb4
              obtain ⟨x0, x1⟩ := C4.c2
              have y0 := C4.free 0
              have y1 := C4.free 1
              have M5 := M4.oth2 (g := G1) (by omega) (.string s) (.int .i64 ((k : Int) + 2))
              have A5 := A4.oth2 (g := G1) (by omega) (.string s) (.int .i64 ((k : Int) + 2))
              have C5 := C4.set2 (.string s) (.int .i64 ((k : Int) + 2))
              have O5 := ((HOw.out.later hb4).set (g := G1) (by omega) 0 (.string s)).set (g := G1) (by omega) 1 (.int .i64 ((k : Int) + 2))
              have hbw5 := below_set2 (g := G1) (below_then HBw.out hb4) (by omega) (.string s) (.int .i64 ((k : Int) + 2))
              go_wp2
              generalize hW5 : (w4.setCell ⟨G1, 0, none⟩ (.string s)).setCell ⟨G1, 1, none⟩ (.int .i64 ((k : Int) + 2)) = W5 at *
              clear hW5 x0 x1 y0 y1 C4 M4 A4 hb4 c0 c1
              obtain ⟨x0, x1⟩ := C5.c2
              obtain ⟨m0, m1, m2, m3, m4, m5, m6⟩ := M5.c7
              obtain ⟨a0, a1, a2, a3, a4, a5, a6⟩ := A5.c7
              obtain ⟨f0, f1, f2, f3, f4, f5, f6⟩ := A5.f7
              have HA5 := hideB2 A5
              have HO5 := hideB2 O5
              have HBW5 := hideB2 hbw5
              clear A5 C5 M5 O5 hbw5
              clear HB A1 d1 HFL HL HE HGB HA HCc HM HOw HBw HN21 HL2 hn x0
              have hG0 : w.heap.size < GB := by omega
              go_big_region
              go_wp2
              rw [Exit.noGoto_ret]
              have hA7 := (HA5.out.set7 (.string a) (.string b) (.int .i64 n) (.string r) (.bool false) (.slice va acc.length vc) (.string ⟨#[]⟩)).drew
              have hO7 := ((HO5.out.set7 hG0 (.string a) (.string b) (.int .i64 n) (.string r) (.bool false) (.slice va acc.length vc) (.string ⟨#[]⟩)).drew).buf (w0 := w) (Nat.le_of_lt hG0) (below_set7 HBW5.out (Nat.le_refl _) (.string a) (.string b) (.int .i64 n) (.string r) (.bool false) (.slice va acc.length vc) (.string ⟨#[]⟩)).drew
              generalize World.drew _ = W7 at *
              refine bodyPost_ret (results_cellT rfl _ _ _ rfl hA7 Tryz.underlying24 Tryz.infoMsg) rfl (show hdPost w (.ok ((a, b, n, r), acc, k + 2)) _ _ from ⟨.slice va acc.length vc, ?_, hO7⟩)
              rw [show ((k + 2 : Nat) : Int) = (k : Int) + 2 by omega]
              rfl
            · have hcast2 : (tlE s k : Int) + 2 = ((tlE s k + 2 : Nat) : Int) := by omega
              rw [hcast2] at HL2
              rw [decide_eq_false he] at hn
              have HFN := hideB2 (fun h2 => lnR_full (n := 20 - acc.length) (acc := acc) h0 he h2)
              have HFB := hideB2 (fun h2 h3 => lnR_no (n := 20 - acc.length) (acc := acc) h0 he h2 h3)
              have HFO := hideB2 (fun h2 h3 => lnR_next (n := 20 - acc.length) (acc := acc) h0 he h2 h3)
              have hz2 := lineAt_size (s := s) (k := k) hk
              have HZ2 : Hid ((lineAt s k).size ≤ maxLen) := by
                have := HS.out
                show (lineAt s k).size ≤ maxLen
                omega
              clear hcast2 h0 he hz2
              generalize tlE s k + 2 = K2 at *
              generalize lineAt s k = L2 at *
              by_cases hful : acc.length = 20
              · obtain rfl : Y = .error 431 := by rw [← hy.out, HN21.out]; exact HFN.out hful
                obtain rfl : X = .error 431 := HXB.out _ rfl
                clear hy HY HXB HXO HFN HFB HFO
                have hfull : ((acc.length : Int) == 20) = true := by rw [hful]; rfl
                go_wp2_with fail
                refine (HL2.out _).mono ?_
                rintro e w4 ⟨rfl, hb4⟩
                have C4 := HCc.out.later hb4
                have M4 := HM.out.later hb4
                obtain ⟨x0, x1⟩ := C4.c2
                have y0 := C4.free 0
                have y1 := C4.free 1
                obtain ⟨m0, m1, m2, m3, m4, m5, m6⟩ := (M4.oth2 (g := G1) (by omega) (.string s) (.int .i64 (K2 : Int))).c7
                have HBW5 := hideB2 (below_set2 (g := G1) (below_then HBw.out hb4) (by omega) (.string s) (.int .i64 (K2 : Int)))
                clear C4 M4 hb4 c0 c1
                go_wp2
                exact ⟨rfl, show hdPost w (.error 431) _ _ from ⟨rfl, HBW5.out⟩⟩
              · have hfull : ((acc.length : Int) == 20) = false := by simp; omega
                cases hro : readO L2
                · obtain rfl : Y = .error 400 := by rw [← hy.out, HN21.out]; exact HFB.out hful hro
                  obtain rfl : X = .error 400 := HXB.out _ rfl
                  have HTF := hideB2 (fun W => takenField_bad L2 W HZ2.out hro)
                  clear hy HY HXB HXO HFN HFB HFO hro
                  go_wp2_with fail
                  refine (HL2.out _).mono ?_
                  rintro e w4 ⟨rfl, hb4⟩
                  have C4 := HCc.out.later hb4
                  have M4 := HM.out.later hb4
                  obtain ⟨x0, x1⟩ := C4.c2
                  have y0 := C4.free 0
                  have y1 := C4.free 1
                  have M5 := M4.oth2 (g := G1) (by omega) (.string s) (.int .i64 (K2 : Int))
                  obtain ⟨m0, m1, m2, m3, m4, m5, m6⟩ := M5.c7
                  have hbw5 := below_set2 (g := G1) (below_then HBw.out hb4) (by omega) (.string s) (.int .i64 (K2 : Int))
                  go_wp2
                  generalize hW5 : (w4.setCell ⟨G1, 0, none⟩ (.string s)).setCell ⟨G1, 1, none⟩ (.int .i64 (K2 : Int)) = W5 at *
                  have HBW5 := hideB2 hbw5
                  clear hW5 x0 x1 y0 y1 C4 M4 M5 hb4 c0 c1 hbw5
                  clear HB A1 d1 HFL HL HE HGB HA HCc HM HOw HBw HN21 HL2 hn hfull
                  go_region_dies
                  all_goals
                    go_at_call 83
                    refine (HTF.out _).mono ?_
                    rintro e w6 ⟨rfl, hb6⟩
                    exact ⟨rfl, show hdPost w (.error 400) _ _ from ⟨rfl, below_then (below_then HBW5.out (Below.refl _ W5).drew) hb6⟩⟩
                · have HY3 : Hid (lnR s (20 - acc.length) K2 (acc ++ [readF L2]) = Y) := by
                    show lnR s (20 - acc.length) K2 (acc ++ [readF L2]) = Y
                    rw [← hy.out, HN21.out]; exact (HFO.out hful hro).symm
                  have HTF := hideB2 (fun W => takenField_ok L2 W HZ2.out hro)
                  clear hy HFN HFB HFO hro
                  generalize readF L2 = f at *
                  obtain ⟨d, t⟩ := f
                  simp only at HTF
                  go_wp2_with fail
                  refine (HL2.out _).mono ?_
                  rintro e w4 ⟨rfl, hb4⟩
                  have C4 := HCc.out.later hb4
                  have M4 := HM.out.later hb4
                  have A4 := HA.out.later hb4
                  obtain ⟨x0, x1⟩ := C4.c2
                  have y0 := C4.free 0
                  have y1 := C4.free 1
                  have M5 := M4.oth2 (g := G1) (by omega) (.string s) (.int .i64 (K2 : Int))
                  have A5 := A4.oth2 (g := G1) (by omega) (.string s) (.int .i64 (K2 : Int))
                  have C5 := C4.set2 (.string s) (.int .i64 (K2 : Int))
                  have O5 := ((HOw.out.later hb4).set (g := G1) (by omega) 0 (.string s)).set (g := G1) (by omega) 1 (.int .i64 (K2 : Int))
                  have hbw5 := below_set2 (g := G1) (below_then HBw.out hb4) (by omega) (.string s) (.int .i64 (K2 : Int))
                  obtain ⟨m0, m1, m2, m3, m4, m5, m6⟩ := M5.c7
                  go_wp2
                  generalize hW5 : (w4.setCell ⟨G1, 0, none⟩ (.string s)).setCell ⟨G1, 1, none⟩ (.int .i64 (K2 : Int)) = W5 at *
                  have HM5 := hideB2 M5
                  have HA5 := hideB2 A5
                  have HC5 := hideB2 C5
                  have HO5 := hideB2 O5
                  have HBW5 := hideB2 hbw5
                  have hG2 : G2 < GB := by omega
                  clear hW5 x0 x1 y0 y1 C4 M4 A4 M5 A5 C5 O5 hb4 c0 c1 hbw5
                  clear HB A1 d1 HFL HL HE HGB HA HCc HM HOw HBw HN21 HL2 hn hfull
                  go_region_law (first
                    | (refine step_fapp2 rfl (.tmp 37) (.tmp 40) rfl GB (.slice va acc.length vc) acc rfl (HO6.out.alloc _) _ d t rfl (Blk.new _ _ _) hacc ?_; intro v7 W7 hbuf7 hbl7; obtain ⟨va7, vc7, rfl⟩ := hbuf7.form; have hm7 := hbl7.block G2 hG2; have hcell7 : W7.cell? ⟨G2, 5, none⟩ = some (.slice va acc.length vc) := ((show Blk W7 G2 _ _ from hm7.trans (HM6.out.alloc _)).c7).2.2.2.2.2.1; have hfree7 : W7.frozen? ⟨G2, 5, none⟩ = false := (show Blk W7 G2 _ _ from hm7.trans (HM6.out.alloc _)).free 5)
                    | (go_simp; go_at_call 83; refine (HTF.out _).mono ?_; rintro e w6 ⟨rfl, hb6⟩; have HO6 := hideB2 (HO5.out.drew.later hb6); have HM6 := hideB2 (HM5.out.drew.later hb6); have hu5 : w6.cell? ⟨G2, 5, none⟩ = some (.slice va acc.length vc) := HM6.out.c7.2.2.2.2.2.1; have hlt6 : G2 < w6.heap.size := HM6.out.lt; simp only []))
                  all_goals
                    go_wp2_with fail
                    have hm9 : Blk (W7.setCell ⟨G2, 5, none⟩ (.slice va7 (acc.length + 1) vc7)) G2 #[.string a, .string b, .int .i64 n, .string r, .bool false, .slice va7 (acc.length + 1) vc7, .string ⟨#[]⟩] 24 := (show Blk W7 G2 #[.string a, .string b, .int .i64 n, .string r, .bool false, .slice va acc.length vc, .string ⟨#[]⟩] 24 from hm7.trans (HM6.out.alloc _)).set 5 _
                    have ha6 := (HA5.out.drew.later hb6).alloc (.cells #[.string d, .string t] 75)
                    have hc6 := (HC5.out.drew.later hb6).alloc (.cells #[.string d, .string t] 75)
                    have ha7 : Blk W7 w.heap.size #[.string ⟨#[]⟩, .string ⟨#[]⟩, .int .i64 0, .string ⟨#[]⟩, .bool false, .slice none 0 0, .string ⟨#[]⟩] 24 := (hbl7.block w.heap.size (by omega)).trans ha6
                    have hc7 : Blk W7 G1 #[.string s, .int .i64 (K2 : Int)] 88 := (hbl7.block G1 (by omega)).trans hc6
                    have hw6 := below_then (below_then HBW5.out (Below.refl _ W5).drew) hb6
                    have hw7 : Below w.heap.size w W7 := (hw6.alloc hw6.size (.cells #[.string d, .string t] 75)).trans (hbl7.mono (by omega))
                    rw [List.length_append, List.length_singleton] at hbuf7
                    refine ⟨⟨K2, acc ++ [(d, t)], .slice va7 (acc.length + 1) vc7, hE2, by rw [List.length_append, List.length_singleton]; omega, ?_, ha7.other (by omega) 5 _, hc7.other (by omega) 5 _, hm9, hbuf7.set hG2 5 _, hw7.setCell (p := ⟨G2, 5, none⟩) (show w.heap.size ≤ G2 by omega) _⟩, ?_⟩
                    · rw [List.length_append, List.length_singleton, show 21 - (acc.length + 1) = 20 - acc.length by omega]; exact HY3
                    · have e9 : fldLen G2 (W7.setCell ⟨G2, 5, none⟩ (.slice va7 (acc.length + 1) vc7)) = acc.length + 1 := by unfold fldLen; rw [hm9.c7.2.2.2.2.2.1]
                      have e5 : fldLen G2 wr = acc.length := by unfold fldLen; rw [HMR.out.c7.2.2.2.2.2.1]
                      rw [e9, e5]; omega
          · have HL2 := hideB2 (fun W => headLine_bad s k W HS.out hk h0)
            obtain rfl : Y = .error (hlC s k) := by rw [← hy.out, HN21.out]; exact lnR_bad h0
            obtain rfl : X = .error (hlC s k) := HXB.out _ rfl
            clear hy HY HXB HXO h0
            go_wp2_with (go_at_call 81; refine (HL2.out _).mono ?_; rintro e w4 ⟨rfl, hb4⟩)
            exact ⟨rfl, show hdPost w (.error (hlC s k)) _ _ from ⟨rfl, below_then HBw.out hb4⟩⟩
    · obtain rfl : X = .error (hlC s 0) := by rw [← hX]; unfold hdX; rw [if_neg (by omega), if_pos h2]
      have HL := hideB2 (fun W => headLine_bad s 0 W hsm (Nat.zero_le _) h2)
      rw [show ((0 : Nat) : Int) = 0 from rfl] at HL
      clear hX h2 hs hsm
      generalize hlC s 0 = c at *
      go_enter Tryz.func49, Tryz.ntmps49
      go_wp2
      go_step3
      go_wp2_with (first
        | (go_at_call 54; refine (refuseIf_any _ _ _).mono ?_; rintro e w9 ⟨rfl, rfl⟩; simp only [refE])
        | (go_at_call 81; refine (HL.out _).mono ?_; rintro e w2 ⟨rfl, hb2⟩))
      exact ⟨rfl, show hdPost w (.error c) _ _ from ⟨rfl, below_then HB.out hb2⟩⟩
end Go.Proofs.YtodandipfjamnaaGreatDoor
namespace Go.Proofs
open Go.Shelf
def Tryz.lays156_ren : Go.Shelf.Ren := ⟨fun | 156 => 168 | 165 => 189 | 166 => 190 | 169 => 191 | 240 => 209 | 241 => 210 | 276 => 228 | 277 => 229 | n => n, fun | 31 => 97 | 9 => 9 | 3 => 3 | 4 => 4 | 0 => 0 | 20 => 20 | 72 => 151 | 76 => 155 | 70 => 149 | 37 => 80 | 75 => 154 | 127 => 161 | 164 => 171 | 5 => 5 | 80 => 157 | n => n, fun | n => n⟩
theorem Tryz.lays156 : Go.Proofs.Lays.n156 Tryz.prog Tryz.lays156_ren := {
  mixed := by kernel_rfl
  f156 := Tryz.func168.trans (congrArg some (by kernel_rfl))
  f165 := Tryz.func189.trans (congrArg some (by kernel_rfl))
  f166 := Tryz.func190.trans (congrArg some (by kernel_rfl))
  f169 := Tryz.func191.trans (congrArg some (by kernel_rfl))
  f240 := Tryz.func209.trans (congrArg some (by kernel_rfl))
  f241 := Tryz.func210.trans (congrArg some (by kernel_rfl))
  f276 := Tryz.func228.trans (congrArg some (by kernel_rfl))
  f277 := Tryz.func229.trans (congrArg some (by kernel_rfl))
  t0 := Tryz.underlying0
  a0 := Tryz.isAgg0
  z0 := Tryz.sizeOf0
  v0 := Tryz.zeroValue0
  t3 := Tryz.underlying3
  a3 := Tryz.isAgg3
  z3 := Tryz.sizeOf3
  v3 := Tryz.zeroValue3
  t4 := Tryz.underlying4
  a4 := Tryz.isAgg4
  z4 := Tryz.sizeOf4
  v4 := Tryz.zeroValue4
  t9 := Tryz.underlying9
  a9 := Tryz.isAgg9
  z9 := Tryz.sizeOf9
  v9 := Tryz.zeroValue9
  t20 := Tryz.underlying20
  a20 := Tryz.isAgg20
  z20 := Tryz.sizeOf20
  v20 := Tryz.zeroValue20
  t31 := Tryz.underlying97
  a31 := Tryz.isAgg97
  z31 := Tryz.sizeOf97
  v31 := Tryz.zeroValue97
  t37 := Tryz.underlying80
  a37 := Tryz.isAgg80
  z37 := Tryz.sizeOf80
  v37 := Tryz.zeroValue80
  t70 := Tryz.underlying149
  a70 := Tryz.isAgg149
  z70 := Tryz.sizeOf149
  v70 := Tryz.zeroValue149
  t72 := Tryz.underlying151
  a72 := Tryz.isAgg151
  z72 := Tryz.sizeOf151
  v72 := Tryz.zeroValue151
  t75 := Tryz.underlying154
  a75 := Tryz.isAgg154
  z75 := Tryz.sizeOf154
  v75 := Tryz.zeroValue154
  t76 := Tryz.underlying155
  a76 := Tryz.isAgg155
  z76 := Tryz.sizeOf155
  v76 := Tryz.zeroValue155
  t127 := Tryz.underlying161
  a127 := Tryz.isAgg161
  z127 := Tryz.sizeOf161
  v127 := Tryz.zeroValue161
  t164 := Tryz.underlying171
  a164 := Tryz.isAgg171
  z164 := Tryz.sizeOf171
  v164 := Tryz.zeroValue171 }
end Go.Proofs
namespace Go.Proofs.YtodandipfjamnaaGreatDoor
set_option linter.unusedVariables false
set_option linter.unusedSimpArgs false
open Go.RowKit

/-- The pieces of a list, cut at commas outside quotes: state 0 outside, 1 inside, 2 behind a backslash inside. -/
def elG : Nat → List UInt8 → List UInt8 → List (List UInt8)
  | _, cur, [] => [cur]
  | 0, cur, b :: r => if b = 44 then cur :: elG 0 [] r else elG (if b = 34 then 1 else 0) (cur ++ [b]) r
  | 1, cur, b :: r => elG (if b = 34 then 0 else if b = 92 then 2 else 1) (cur ++ [b]) r
  | _, cur, b :: r => elG 1 (cur ++ [b]) r
def keepP (p : List UInt8) : List ByteArray := if trimL p = [] then [] else [⟨(trimL p).toArray⟩]
def cleanP (ps : List (List UInt8)) : List ByteArray := ps.flatMap keepP
def elsB (s : ByteArray) : List ByteArray := if s.size ≤ 4000 then cleanP (elG 0 [] s.data.toList) else []

theorem elG_nil (q : Nat) (cur : List UInt8) : elG q cur [] = [cur] := by
  match q with
  | 0 => rfl
  | 1 => rfl
  | n + 2 => rfl
def ERel (L : List UInt8) (q fr k : Nat) (P : List (List UInt8)) : Prop := fr ≤ k ∧ k ≤ L.length ∧ elG 0 [] L = P ++ elG q ((L.take k).drop fr) (L.drop k)
theorem erel_start (L : List UInt8) : ERel L 0 0 0 [] := ⟨Nat.le_refl _, Nat.zero_le _, by simp⟩
theorem dropAt (L : List UInt8) (p : Nat) (h : p < L.length) : L.drop p = L.getD p 0 :: L.drop (p + 1) := by
  rw [List.drop_eq_getElem_cons h]
  simp [List.getD, List.getElem?_eq_getElem h]
theorem takeAt (L : List UInt8) (fr k : Nat) (hf : fr ≤ k) (h : k < L.length) : (L.take (k + 1)).drop fr = (L.take k).drop fr ++ [L.getD k 0] := by
  rw [List.take_succ_eq_append_getElem h, List.drop_append_of_le_length (by simp; omega)]
  simp [List.getD, List.getElem?_eq_getElem h]
theorem erel_end {L : List UInt8} {q fr : Nat} {P : List (List UInt8)} (h : ERel L q fr L.length P) : elG 0 [] L = P ++ [L.drop fr] := by
  rw [h.2.2, List.drop_eq_nil_of_le (Nat.le_refl _), elG_nil, List.take_of_length_le (Nat.le_refl _)]
theorem erel_comma {L : List UInt8} {fr k : Nat} {P : List (List UInt8)} (h : ERel L 0 fr k P) (hk : k < L.length) (hb : L.getD k 0 = 44) : ERel L 0 (k + 1) (k + 1) (P ++ [(L.take k).drop fr]) := by
  refine ⟨Nat.le_refl _, hk, ?_⟩
  rw [h.2.2, dropAt L k hk, elG, if_pos hb]
  have : (L.take (k + 1)).drop (k + 1) = [] := List.drop_eq_nil_of_le (by simp; omega)
  rw [this]; simp
theorem erel_out {L : List UInt8} {fr k : Nat} {P : List (List UInt8)} (h : ERel L 0 fr k P) (hk : k < L.length) (hb : L.getD k 0 ≠ 44) : ERel L (if L.getD k 0 = 34 then 1 else 0) fr (k + 1) P := by
  refine ⟨by have := h.1; omega, hk, ?_⟩
  rw [h.2.2, dropAt L k hk, elG, if_neg hb, takeAt L fr k h.1 hk]
theorem erel_in {L : List UInt8} {fr k : Nat} {P : List (List UInt8)} (h : ERel L 1 fr k P) (hk : k < L.length) : ERel L (if L.getD k 0 = 34 then 0 else if L.getD k 0 = 92 then 2 else 1) fr (k + 1) P := by
  refine ⟨by have := h.1; omega, hk, ?_⟩
  rw [h.2.2, dropAt L k hk, elG, takeAt L fr k h.1 hk]
theorem erel_behind {L : List UInt8} {fr k : Nat} {P : List (List UInt8)} (h : ERel L 2 fr k P) (hk : k < L.length) : ERel L 1 fr (k + 1) P := by
  refine ⟨by have := h.1; omega, hk, ?_⟩
  rw [h.2.2, dropAt L k hk, elG, takeAt L fr k h.1 hk]
  · intro hh; cases hh
  · intro hh; cases hh
theorem erel_behind_end {L : List UInt8} {fr : Nat} {P : List (List UInt8)} (h : ERel L 2 fr L.length P) : ERel L 1 fr L.length P := by
  refine ⟨h.1, h.2.1, ?_⟩
  rw [h.2.2, List.drop_eq_nil_of_le (Nat.le_refl _), elG_nil, elG_nil]
theorem cleanP_snoc (P : List (List UInt8)) (p : List UInt8) : cleanP (P ++ [p]) = cleanP P ++ keepP p := by simp [cleanP]
theorem keepP_len (p : List UInt8) : (keepP p).length ≤ 1 := by unfold keepP; split <;> simp
theorem els_big {s : ByteArray} (h : 4000 < s.size) : elsB s = [] := by unfold elsB; rw [if_neg (by omega)]
theorem els_small {s : ByteArray} (h : s.size ≤ 4000) : elsB s = cleanP (elG 0 [] s.data.toList) := by unfold elsB; rw [if_pos h]
/-- How many pieces there can be. -/
theorem cleanP_len (P : List (List UInt8)) : (cleanP P).length ≤ P.length := by
  induction P with
  | nil => simp [cleanP]
  | cons p P ih =>
    have e : cleanP (p :: P) = keepP p ++ cleanP P := by simp [cleanP]
    rw [e, List.length_append, List.length_cons]
    have := keepP_len p
    omega

/-! A scope in which the run jumps to one of several labels. -/
/-- As Q; by a goto to label l: J l. -/
def jumpsTo (J : Nat → Act → World → Prop) (Q : Exit → Act → World → Prop) : Exit → Act → World → Prop
  | .goto l, a, w => J l a w
  | e, a, w => Q e a w
theorem wp_labels {P : Program} {a : Act} {w : World} {Q : Exit → Act → World → Prop} {c : Code} (rest : Nat → Code) (J : Nat → Act → World → Prop) (μ : Nat → Act → World → Nat)
    (hf : ∀ l a w, J l a w → findLabel c l = some (rest l)) (first : c.wp P (jumpsTo J Q) a w)
    (pass : ∀ l a w, J l a w → (rest l).wp P (jumpsTo (fun l' a' w' => J l' a' w' ∧ μ l' a' w' < μ l a w) Q) a w) : (Code.scope c).wp P Q a w := by
  intro b k cs
  have key : ∀ n l a w, μ l a w = n → J l a w → ∃ e a' w', Q e a' w' ∧ Arrives P (lone (b.at a (.code (rest l) :: .inScope c :: k)) cs w) b k cs e a' w' := by
    intro n
    induction n using Nat.strongRecOn with
    | _ n ih =>
      intro l a w hn hJ
      obtain ⟨e, a₁, w₁, hq, harr⟩ := pass l a w hJ b (.inScope c :: k) cs
      cases e with
      | normal => exact ⟨.normal, a₁, w₁, hq, Steps.trans harr (.one step_inScope)⟩
      | exit id => exact ⟨.exit id, a₁, w₁, hq, fun k' hk => harr k' (by simp [exitTo, hk])⟩
      | goto l' =>
        obtain ⟨hJ', hlt⟩ := hq
        have hg : gotoIn l' (.inScope c :: k) = some (.code (rest l') :: .inScope c :: k) := by simp [gotoIn, hf l' a₁ w₁ hJ']
        obtain ⟨e₂, a₂, w₂, hq₂, harr₂⟩ := ih _ (by omega) l' a₁ w₁ rfl hJ'
        exact ⟨e₂, a₂, w₂, hq₂, .of_steps (harr _ hg) harr₂⟩
      | ret => exact ⟨_, a₁, w₁, hq, harr⟩
      | panic ch => exact ⟨_, a₁, w₁, hq, harr⟩
      | outgrown => exact ⟨_, a₁, w₁, hq, harr⟩
  obtain ⟨e, a₁, w₁, hq, harr⟩ := first b (.inScope c :: k) cs
  cases e with
  | normal => exact ⟨.normal, a₁, w₁, hq, .head step_scope (Steps.trans harr (.one step_inScope))⟩
  | exit id => exact ⟨.exit id, a₁, w₁, hq, fun k' hk => .head step_scope (harr k' (by simp [exitTo, hk]))⟩
  | goto l' =>
    have hJ' : J l' a₁ w₁ := hq
    have hg : gotoIn l' (.inScope c :: k) = some (.code (rest l') :: .inScope c :: k) := by simp [gotoIn, hf l' a₁ w₁ hJ']
    obtain ⟨e₂, a₂, w₂, hq₂, harr₂⟩ := key _ l' a₁ w₁ rfl hJ'
    exact ⟨e₂, a₂, w₂, hq₂, .of_steps (.head step_scope (harr _ hg)) harr₂⟩
  | ret => exact ⟨_, a₁, w₁, hq, .of_steps (.one step_scope) harr⟩
  | panic ch => exact ⟨_, a₁, w₁, hq, .of_steps (.one step_scope) harr⟩
  | outgrown => exact ⟨_, a₁, w₁, hq, .of_steps (.one step_scope) harr⟩
end Go.Proofs.YtodandipfjamnaaGreatDoor
namespace Go.Proofs.YtodandipfjamnaaGreatDoor
set_option linter.unusedVariables false
set_option linter.unusedSimpArgs false
open Go.RowKit

theorem trimB_list (s : ByteArray) : (trimB s).data.toList = trimL s.data.toList := rfl
theorem keep_none {s : ByteArray} (h : (trimB s).toList.isEmpty = true) : keepP s.data.toList = [] := by
  rw [ByteArray.toList_eq, trimB_list, List.isEmpty_iff] at h
  unfold keepP; rw [if_pos h]
theorem keep_some {s : ByteArray} (h : (trimB s).toList.isEmpty = false) : keepP s.data.toList = [trimB s] := by
  rw [ByteArray.toList_eq, trimB_list, List.isEmpty_eq_false_iff] at h
  unfold keepP; rw [if_neg h]; rfl
set_option maxHeartbeats 1000000 in
theorem withPiece_any (w0 w : World) (v : Value) (l : List ByteArray) (s : ByteArray) (hbuf : BufS w0 w v l) (hl : l.length ≤ 1000000) (hs : s.size ≤ maxLen) :
    Calls Tryz.prog 167 #[v, .string s] w fun e w' => ∃ v', e = .returned v' ∧ BufS w0 w' v' (l ++ keepP s.data.toList) := by
  go_enter Tryz.func167, Tryz.ntmps167
  go_wp2_with fail
  refine (Trim_any s _ hs).mono ?_
  rintro e w1 ⟨rfl, rfl⟩
  cases he : (trimB s).toList.isEmpty
  · have hk : Hid (keepP s.data.toList = [trimB s]) := keep_some he
    generalize trimB s = t at *
    go_wp2_with (at_builtin; refine wp_sapp rfl (.tmp 10) (.tmp 12) rfl _ _ rfl hbuf t rfl (by omega) ?_; intro v2 W2 hbuf2)
    go_ret
    exact ⟨_, rfl, by rw [hk.out]; exact hbuf2⟩
  · have hk : Hid (keepP s.data.toList = []) := keep_none he
    generalize trimB s = t at *
    go_wp2
    go_ret
    exact ⟨_, rfl, by rw [hk.out, List.append_nil]; exact hbuf⟩
end Go.Proofs.YtodandipfjamnaaGreatDoor
namespace Go.Proofs.YtodandipfjamnaaGreatDoor
set_option linter.unusedVariables false
set_option linter.unusedSimpArgs false
open Go.RowKit

theorem u8eq {b c : UInt8} (h : (b.toNat : Int) = (c.toNat : Int)) : b = c := UInt8.toNat_inj.1 (by omega)
theorem u8ne {b c : UInt8} (h : (b.toNat : Int) ≠ (c.toNat : Int)) : b ≠ c := fun e => h (by rw [e])
theorem wp_labels2 {P : Program} {a : Act} {w : World} {Q : Exit → Act → World → Prop} {c : Code} (J : Nat → Act → World → Prop) (μ : Nat → Act → World → Nat)
    (hf : ∀ l a w, J l a w → findLabel c l = some ((findLabel c l).getD .skip)) (first : c.wp P (jumpsTo J Q) a w)
    (pass : ∀ l a w, J l a w → ((findLabel c l).getD .skip).wp P (jumpsTo (fun l' a' w' => J l' a' w' ∧ μ l' a' w' < μ l a w) Q) a w) : (Code.scope c).wp P Q a w :=
  wp_labels (fun l => (findLabel c l).getD .skip) J μ hf first pass
/-- The code behind a label, less the empty step in front. -/
def strip : Code → Code
  | .seq .skip r => r
  | c => c
theorem strip_wp {P : Program} {c : Code} {Q : Exit → Act → World → Prop} {a : Act} {w : World} (h : (strip c).wp P Q a w) : c.wp P Q a w := by
  unfold strip at h
  split at h
  · exact wp_seq (wp_skip h)
  · exact h
theorem wp_labels3 {P : Program} {a : Act} {w : World} {Q : Exit → Act → World → Prop} {c : Code} (J : Nat → Act → World → Prop) (μ : Nat → Act → World → Nat)
    (hf : ∀ l a w, J l a w → findLabel c l = some ((findLabel c l).getD .skip))
    (pass : ∀ l a w, J l a w → (strip ((findLabel c l).getD .skip)).wp P (jumpsTo (fun l' a' w' => J l' a' w' ∧ μ l' a' w' < μ l a w) Q) a w)
    (first : (∀ l a w, J l a w → (strip ((findLabel c l).getD .skip)).wp P (jumpsTo J Q) a w) → c.wp P (jumpsTo J Q) a w) : (Code.scope c).wp P Q a w := by
  refine wp_labels2 J μ hf (first fun l a w h => Code.wp_mono ?_ (pass l a w h)) fun l a w h => strip_wp (pass l a w h)
  intro e a' w' hq
  cases e with
  | goto l' => exact hq.1
  | normal => exact hq
  | exit _ => exact hq
  | ret => exact hq
  | panic _ => exact hq
  | outgrown => exact hq
/-- The frame at each label. -/
def ElF (s : ByteArray) (v : Value) (x y : Int) (a : Act) : Prop := ∃ u6 u7 u8 u9 u10 u11 u12 u13 u14 u15 u16 u17 u18 u19 u20 u21 u22 u23 u24 u25 u26 u27 u28 u29 u30 u31 u32 u33 u34 u35 u36 u37 u38 u39 u40 u41 u42 u43 u44 u45 u46 u47 u48 u49 u50 u51 u52 u53 u54 u55 u56 u57 u58 u59 u60 : Value, a = ⟨#[.string s, undef, .slice none 0 0, v, .int .i64 x, .int .i64 y, u6, u7, u8, u9, u10, u11, u12, u13, u14, u15, u16, u17, u18, u19, u20, u21, u22, u23, u24, u25, u26, u27, u28, u29, u30, u31, u32, u33, u34, u35, u36, u37, u38, u39, u40, u41, u42, u43, u44, u45, u46, u47, u48, u49, u50, u51, u52, u53, u54, u55, u56, u57, u58, u59, u60], []⟩
theorem elF_eq {s : ByteArray} {v : Value} {x y x' y' : Int} {u6 u7 u8 u9 u10 u11 u12 u13 u14 u15 u16 u17 u18 u19 u20 u21 u22 u23 u24 u25 u26 u27 u28 u29 u30 u31 u32 u33 u34 u35 u36 u37 u38 u39 u40 u41 u42 u43 u44 u45 u46 u47 u48 u49 u50 u51 u52 u53 u54 u55 u56 u57 u58 u59 u60 : Value} (h1 : Value.int .i64 x' = .int .i64 x) (h2 : Value.int .i64 y' = .int .i64 y) :
    (⟨#[.string s, undef, .slice none 0 0, v, .int .i64 x', .int .i64 y', u6, u7, u8, u9, u10, u11, u12, u13, u14, u15, u16, u17, u18, u19, u20, u21, u22, u23, u24, u25, u26, u27, u28, u29, u30, u31, u32, u33, u34, u35, u36, u37, u38, u39, u40, u41, u42, u43, u44, u45, u46, u47, u48, u49, u50, u51, u52, u53, u54, u55, u56, u57, u58, u59, u60], []⟩ : Act) = ⟨#[.string s, undef, .slice none 0 0, v, .int .i64 x, .int .i64 y, u6, u7, u8, u9, u10, u11, u12, u13, u14, u15, u16, u17, u18, u19, u20, u21, u22, u23, u24, u25, u26, u27, u28, u29, u30, u31, u32, u33, u34, u35, u36, u37, u38, u39, u40, u41, u42, u43, u44, u45, u46, u47, u48, u49, u50, u51, u52, u53, u54, u55, u56, u57, u58, u59, u60], []⟩ := by rw [h1, h2]
def ElJ (s : ByteArray) (w0 : World) (q : Nat) (a : Act) (w : World) : Prop := q ≤ 2 ∧ ∃ (v : Value) (fr k : Nat) (P : List (List UInt8)), ElF s v fr k a ∧ ERel s.data.toList q fr k P ∧ BufS w0 w v (cleanP P) ∧ P.length ≤ k
theorem elJ_mk {s : ByteArray} {w0 w : World} {a : Act} (q : Nat) (v : Value) (fr k : Nat) (P : List (List UInt8)) (h1 : ERel s.data.toList q fr k P) (h2 : BufS w0 w v (cleanP P)) (h3 : P.length ≤ k) (h4 : ElF s v fr k a) (hq : q ≤ 2 := by omega) : ElJ s w0 q a w := ⟨hq, v, fr, k, P, h4, h1, h2, h3⟩
def elMu (s : ByteArray) (l : Nat) (a : Act) (_ : World) : Nat := 2 * (s.size - (intOf (a.tmps.getD 5 undef)).toNat) + if l = 2 then 1 else 0
set_option maxRecDepth 1000000 in
set_option maxHeartbeats 4000000 in
theorem Elements_small (s : ByteArray) (w : World) (hs : s.size ≤ 4000) :
    Calls Tryz.prog 124 #[.string s] w fun e w' => ∃ v, e = .returned v ∧ BufS w w' v (elsB s) := by
  have hsm : s.size ≤ maxLen := by unfold maxLen; omega
  have hnb : ¬ (4000 : Int) < (s.size : Int) := by omega
  go_enter Tryz.func124, Tryz.ntmps124
  go_wp2
  refine wp_labels3 (ElJ s w) (elMu s) ?_ ?_ ?_
  · intro l a w hJ
    obtain ⟨hl, _⟩ := hJ
    match l, hl with
    | 0, _ => rfl
    | 1, _ => rfl
    | 2, _ => rfl
  · intro l a wr hJ
    obtain ⟨hl, v, fr, k, P, ⟨u6, u7, u8, u9, u10, u11, u12, u13, u14, u15, u16, u17, u18, u19, u20, u21, u22, u23, u24, u25, u26, u27, u28, u29, u30, u31, u32, u33, u34, u35, u36, u37, u38, u39, u40, u41, u42, u43, u44, u45, u46, u47, u48, u49, u50, u51, u52, u53, u54, u55, u56, u57, u58, u59, u60, rfl⟩, hrel, hbuf, hPk⟩ := hJ
    have hfr := hrel.1
    have hkl := hrel.2.1
    rw [len_data] at hkl
    have hcl := cleanP_len P
    match l, hl with
    | 0, _ =>
      conv => arg 2; whnf
      by_cases hend : k = s.size
      · subst hend
        have hfin : Hid (elsB s = cleanP P ++ keepP (s.extract fr s.size).data.toList) := by
          show _ = _
          rw [els_small hs, extract_list]
          have := hrel
          rw [← len_data] at this
          rw [erel_end this, cleanP_snoc, List.take_of_length_le (by rw [len_data]; exact Nat.le_refl _)]
        have hge : s.size ≤ s.size := Nat.le_refl _
        clear hrel
        go_wp2_with (go_at_call 167; refine (withPiece_any w _ _ _ _ hbuf (by omega) (by simp [ByteArray.size_extract]; unfold maxLen; omega)).mono ?_; rintro e w1 ⟨v', rfl, hbuf1⟩)
        try simp only [jumpsTo]
        go_ret
        exact ⟨_, rfl, by rw [hfin.out]; exact hbuf1⟩
      · have hlt : k < s.size := by omega
        have hkL : k < s.data.toList.length := by rw [len_data]; exact hlt
        have hne : ((k : Int) == (s.size : Int)) = false := by rw [beq_eq_false_iff_ne]; omega
        have hat : s[k] = s.data.toList.getD k 0 := at8_eq s k hlt
        have Hat : Hid (s[k] = s.data.toList.getD k 0) := hat
        have Hrel : Hid (ERel s.data.toList 0 fr k P) := hrel
        clear hat hrel hend
        by_cases h44 : (s[k].toNat : Int) = 44
        · have g44 : ((s[k].toNat : Int) == 44) = true := by simpa using h44
          have hb44 : Hid (s.data.toList.getD k 0 = 44) := by show _ = _; rw [← Hat.out]; exact u8eq h44
          have hrel2 := erel_comma Hrel.out hkL hb44.out
          have HR : Hid (ERel s.data.toList 0 (k + 1) (k + 1) (P ++ [(s.extract fr k).data.toList])) := by
            show ERel _ _ _ _ _
            rw [extract_list]; exact hrel2
          clear h44 hrel2
          go_wp2_with (go_at_call 167; refine (withPiece_any w _ _ _ _ hbuf (by omega) (by simp [ByteArray.size_extract]; unfold maxLen; omega)).mono ?_; rintro e w1 ⟨v', rfl, hbuf1⟩)
          go_step3
          try simp only [jumpsTo]
          refine ⟨elJ_mk 0 v' (k + 1) (k + 1) (P ++ [(s.extract fr k).data.toList]) HR.out (by rw [cleanP_snoc]; exact hbuf1) (by first | omega | (simp; omega)) ⟨_, _, _, _, _, _, _, _, _, _, _, _, _, _, _, _, _, _, _, _, _, _, _, _, _, _, _, _, _, _, _, _, _, _, _, _, _, _, _, _, _, _, _, _, _, _, _, _, _, _, _, _, _, _, _, elF_eq (by go_num) (by go_num)⟩, ?_⟩
          simp [elMu, intOf]; omega
        · have g44 : ((s[k].toNat : Int) == 44) = false := by simpa using h44
          have hn44 : s.data.toList.getD k 0 ≠ 44 := by rw [← Hat.out]; exact u8ne h44
          have hr := erel_out Hrel.out hkL hn44
          by_cases h34 : (s[k].toNat : Int) = 34
          · have g34 : ((s[k].toNat : Int) == 34) = true := by simpa using h34
            rw [if_pos (by rw [← Hat.out]; exact u8eq h34)] at hr
            have HR : Hid (ERel s.data.toList 1 fr (k + 1) P) := hr
            clear h44 h34 hn44 hr
            go_wp2
            go_step3
            try simp only [jumpsTo]
            refine ⟨elJ_mk 1 v fr (k + 1) P HR.out hbuf (by first | omega | (simp; omega)) ⟨_, _, _, _, _, _, _, _, _, _, _, _, _, _, _, _, _, _, _, _, _, _, _, _, _, _, _, _, _, _, _, _, _, _, _, _, _, _, _, _, _, _, _, _, _, _, _, _, _, _, _, _, _, _, _, elF_eq (by go_num) (by go_num)⟩, ?_⟩
            simp [elMu, intOf]; omega
          · have g34 : ((s[k].toNat : Int) == 34) = false := by simpa using h34
            rw [if_neg (by rw [← Hat.out]; exact u8ne h34)] at hr
            have HR : Hid (ERel s.data.toList 0 fr (k + 1) P) := hr
            clear h44 h34 hn44 hr
            go_wp2
            go_step3
            try simp only [jumpsTo]
            refine ⟨elJ_mk 0 v fr (k + 1) P HR.out hbuf (by first | omega | (simp; omega)) ⟨_, _, _, _, _, _, _, _, _, _, _, _, _, _, _, _, _, _, _, _, _, _, _, _, _, _, _, _, _, _, _, _, _, _, _, _, _, _, _, _, _, _, _, _, _, _, _, _, _, _, _, _, _, _, _, elF_eq (by go_num) (by go_num)⟩, ?_⟩
            simp [elMu, intOf]; omega
    | 1, _ =>
      conv => arg 2; whnf
      by_cases hend : k = s.size
      · subst hend
        have hfin : Hid (elsB s = cleanP P ++ keepP (s.extract fr s.size).data.toList) := by
          show _ = _
          rw [els_small hs, extract_list]
          have := hrel
          rw [← len_data] at this
          rw [erel_end this, cleanP_snoc, List.take_of_length_le (by rw [len_data]; exact Nat.le_refl _)]
        clear hrel
        go_wp2_with (go_at_call 167; refine (withPiece_any w _ _ _ _ hbuf (by omega) (by simp [ByteArray.size_extract]; unfold maxLen; omega)).mono ?_; rintro e w1 ⟨v', rfl, hbuf1⟩)
        try simp only [jumpsTo]
        go_ret
        exact ⟨_, rfl, by rw [hfin.out]; exact hbuf1⟩
      · have hlt : k < s.size := by omega
        have hkL : k < s.data.toList.length := by rw [len_data]; exact hlt
        have hne : ((k : Int) == (s.size : Int)) = false := by rw [beq_eq_false_iff_ne]; omega
        have hat : s[k] = s.data.toList.getD k 0 := at8_eq s k hlt
        have Hat : Hid (s[k] = s.data.toList.getD k 0) := hat
        have hr := erel_in hrel hkL
        clear hat hrel hend
        by_cases h34 : (s[k].toNat : Int) = 34
        · have g34 : ((s[k].toNat : Int) == 34) = true := by simpa using h34
          rw [if_pos (by rw [← Hat.out]; exact u8eq h34)] at hr
          have HR : Hid (ERel s.data.toList 0 fr (k + 1) P) := hr
          clear h34 hr
          go_wp2
          go_step3
          try simp only [jumpsTo]
          refine ⟨elJ_mk 0 v fr (k + 1) P HR.out hbuf (by first | omega | (simp; omega)) ⟨_, _, _, _, _, _, _, _, _, _, _, _, _, _, _, _, _, _, _, _, _, _, _, _, _, _, _, _, _, _, _, _, _, _, _, _, _, _, _, _, _, _, _, _, _, _, _, _, _, _, _, _, _, _, _, elF_eq (by go_num) (by go_num)⟩, ?_⟩
          simp [elMu, intOf]; omega
        · have g34 : ((s[k].toNat : Int) == 34) = false := by simpa using h34
          rw [if_neg (by rw [← Hat.out]; exact u8ne h34)] at hr
          by_cases h92 : (s[k].toNat : Int) = 92
          · have g92 : ((s[k].toNat : Int) == 92) = true := by simpa using h92
            rw [if_pos (by rw [← Hat.out]; exact u8eq h92)] at hr
            have HR : Hid (ERel s.data.toList 2 fr (k + 1) P) := hr
            clear h34 h92 hr
            go_wp2
            go_step3
            try simp only [jumpsTo]
            refine ⟨elJ_mk 2 v fr (k + 1) P HR.out hbuf (by first | omega | (simp; omega)) ⟨_, _, _, _, _, _, _, _, _, _, _, _, _, _, _, _, _, _, _, _, _, _, _, _, _, _, _, _, _, _, _, _, _, _, _, _, _, _, _, _, _, _, _, _, _, _, _, _, _, _, _, _, _, _, _, elF_eq (by go_num) (by go_num)⟩, ?_⟩
            simp [elMu, intOf]; omega
          · have g92 : ((s[k].toNat : Int) == 92) = false := by simpa using h92
            rw [if_neg (by rw [← Hat.out]; exact u8ne h92)] at hr
            have HR : Hid (ERel s.data.toList 1 fr (k + 1) P) := hr
            clear h34 h92 hr
            go_wp2
            go_step3
            try simp only [jumpsTo]
            refine ⟨elJ_mk 1 v fr (k + 1) P HR.out hbuf (by first | omega | (simp; omega)) ⟨_, _, _, _, _, _, _, _, _, _, _, _, _, _, _, _, _, _, _, _, _, _, _, _, _, _, _, _, _, _, _, _, _, _, _, _, _, _, _, _, _, _, _, _, _, _, _, _, _, _, _, _, _, _, _, elF_eq (by go_num) (by go_num)⟩, ?_⟩
            simp [elMu, intOf]; omega
    | 2, _ =>
      conv => arg 2; whnf
      by_cases hlt : k < s.size
      · have hkL : k < s.data.toList.length := by rw [len_data]; exact hlt
        have HR : Hid (ERel s.data.toList 1 fr (k + 1) P) := erel_behind hrel hkL
        clear hrel
        go_wp2
        go_step3
        try simp only [jumpsTo]
        refine ⟨elJ_mk 1 v fr (k + 1) P HR.out hbuf (by first | omega | (simp; omega)) ⟨_, _, _, _, _, _, _, _, _, _, _, _, _, _, _, _, _, _, _, _, _, _, _, _, _, _, _, _, _, _, _, _, _, _, _, _, _, _, _, _, _, _, _, _, _, _, _, _, _, _, _, _, _, _, _, elF_eq (by go_num) (by go_num)⟩, ?_⟩
        simp [elMu, intOf]; omega
      · obtain rfl : k = s.size := by omega
        have HR : Hid (ERel s.data.toList 1 fr s.size P) := by
          have := hrel
          rw [← len_data] at this ⊢
          exact erel_behind_end this
        clear hrel
        go_wp2
        go_step3
        try simp only [jumpsTo]
        refine ⟨elJ_mk 1 v fr s.size P HR.out hbuf (by first | omega | (simp; omega)) ⟨_, _, _, _, _, _, _, _, _, _, _, _, _, _, _, _, _, _, _, _, _, _, _, _, _, _, _, _, _, _, _, _, _, _, _, _, _, _, _, _, _, _, _, _, _, _, _, _, _, _, _, _, _, _, _, elF_eq (by go_num) (by go_num)⟩, ?_⟩
        simp [elMu, intOf]
  · intro hgo
    go_wp2
    go_step3
    apply_assumption
    refine hgo 0 _ w ?_
    exact elJ_mk 0 _ 0 0 [] (erel_start _) (BufS.start w) (Nat.zero_le _) ⟨_, _, _, _, _, _, _, _, _, _, _, _, _, _, _, _, _, _, _, _, _, _, _, _, _, _, _, _, _, _, _, _, _, _, _, _, _, _, _, _, _, _, _, _, _, _, _, _, _, _, _, _, _, _, _, rfl⟩
set_option maxHeartbeats 1000000 in
theorem Elements_any (s : ByteArray) (w : World) (hsm : s.size ≤ maxLen) :
    Calls Tryz.prog 124 #[.string s] w fun e w' => ∃ v, e = .returned v ∧ BufS w w' v (elsB s) := by
  by_cases hs : s.size ≤ 4000
  · exact Elements_small s w hs
  · have hb : Hid (elsB s = []) := els_big (by omega)
    have hnb : (4000 : Int) < (s.size : Int) := by omega
    clear hs
    go_enter Tryz.func124, Tryz.ntmps124
    go_wp2
    refine wp_labels3 (fun _ _ _ => False) (fun _ _ _ => 0) (fun _ _ _ h => h.elim) (fun _ _ _ h => h.elim) (fun _ => ?_)
    go_wp2
    simp only [jumpsTo]
    go_ret
    exact ⟨_, rfl, by rw [hb.out]; exact BufS.start w⟩
end Go.Proofs.YtodandipfjamnaaGreatDoor
namespace Go.Proofs.YtodandipfjamnaaGreatDoor
set_option linter.unusedVariables false
set_option linter.unusedSimpArgs false
open Go.RowKit
theorem keepT (s : ByteArray) : ((¬ (0 : Int) < ((trimB s).size : Int)) ∧ keepP s.data.toList = []) ∨ ((0 : Int) < ((trimB s).size : Int) ∧ keepP s.data.toList = [trimB s]) := by
  have e : (trimB s).size = (trimL s.data.toList).length := by show (trimL s.data.toList).toArray.size = _; simp
  by_cases h : trimL s.data.toList = []
  · left; refine ⟨by rw [e, h]; simp, ?_⟩
    unfold keepP; rw [if_pos h]
  · right
    have : 0 < (trimL s.data.toList).length := List.length_pos_iff.2 h
    refine ⟨by rw [e]; omega, ?_⟩
    unfold keepP; rw [if_neg h]; rfl
def qN (q : Bool) : Nat := if q then 1 else 0
set_option maxHeartbeats 4000000 in
theorem sElements_small (s : ByteArray) (w : World) (hs : s.size ≤ 4000) :
    Calls Tryz.prog 107 #[.string s] w fun e w' => ∃ v, e = .returned v ∧ BufS w w' v (elsB s) := by
  have hsm : s.size ≤ maxLen := by unfold maxLen; omega
  have hnb : ¬ (4000 : Int) < (s.size : Int) := by omega
  go_enter Tryz.func107, Tryz.ntmps107
  go_wp2
  go_loopw [3, 4, 5, 6] (fun v f b i wr => ∃ (fr k : Nat) (q : Bool) (P : List (List UInt8)), f = .int .i64 (fr : Int) ∧ b = .bool q ∧ i = .int .i64 (k : Int) ∧ P.length ≤ k ∧ ((k ≤ s.size ∧ ERel s.data.toList (qN q) fr k P ∧ BufS w wr v (cleanP P)) ∨ (k = s.size + 1 ∧ BufS w wr v (elsB s)))) (fun _ _ _ i _ => s.size + 1 - (intOf i).toNat)
  case atStart => exact ⟨0, 0, false, [], rfl, rfl, rfl, Nat.zero_le _, Or.inl ⟨Nat.zero_le _, erel_start _, BufS.start w⟩⟩
  case round =>
    obtain ⟨fr, k, q, P, rfl, rfl, rfl, hPk, hst⟩ := hrel
    rcases hst with ⟨hk, hrel, hbuf⟩ | ⟨hk, hbuf⟩
    · have hfr := hrel.1
      have hcl := cleanP_len P
      have hle : (k : Int) ≤ (s.size : Int) := by omega
      by_cases hend : k = s.size
      · subst hend
        have hfin : Hid (elsB s = cleanP P ++ keepP (s.extract fr s.size).data.toList) := by
          show _ = _
          rw [els_small hs, extract_list]
          have := hrel
          rw [← len_data] at this
          rw [erel_end this, cleanP_snoc, List.take_of_length_le (by rw [len_data]; exact Nat.le_refl _)]
        clear hrel
        rcases keepT (s.extract fr s.size) with ⟨ht, hkp⟩ | ⟨ht, hkp⟩
        · have HK : Hid (keepP (s.extract fr s.size).data.toList = []) := hkp
          clear hkp
          go_wp2_with (first | (go_at_call 104; refine (sTrim_any _ _ (by simp [ByteArray.size_extract]; unfold maxLen; omega)).mono ?_; rintro e w1 ⟨rfl, rfl⟩) | (at_builtin; refine wp_sapp rfl _ _ rfl _ _ rfl hbuf (trimB (s.extract fr s.size)) rfl (by omega) ?_; intro v2 W2 hbuf2))
          go_round
          case rel => exact ⟨s.size + 1, s.size + 1, q, P, by go_num, rfl, by go_num, by omega, Or.inr ⟨rfl, by rw [hfin.out, HK.out, List.append_nil]; exact hbuf⟩⟩
          case measure => simp [intOf] <;> omega
        · have HK : Hid (keepP (s.extract fr s.size).data.toList = [trimB (s.extract fr s.size)]) := hkp
          clear hkp
          go_wp2_with (first | (go_at_call 104; refine (sTrim_any _ _ (by simp [ByteArray.size_extract]; unfold maxLen; omega)).mono ?_; rintro e w1 ⟨rfl, rfl⟩) | (at_builtin; refine wp_sapp rfl _ _ rfl _ _ rfl hbuf (trimB (s.extract fr s.size)) rfl (by omega) ?_; intro v2 W2 hbuf2))
          go_round
          case rel => exact ⟨s.size + 1, s.size + 1, q, P, by go_num, rfl, by go_num, by omega, Or.inr ⟨rfl, by rw [hfin.out, HK.out]; exact hbuf2⟩⟩
          case measure => simp [intOf] <;> omega
      · have hlt : k < s.size := by omega
        have hkL : k < s.data.toList.length := by rw [len_data]; exact hlt
        have hne : ((k : Int) == (s.size : Int)) = false := by rw [beq_eq_false_iff_ne]; omega
        have Hat : Hid (s[k] = s.data.toList.getD k 0) := at8_eq s k hlt
        have Hrel : Hid (ERel s.data.toList (qN q) fr k P) := hrel
        clear hrel hend
        cases q
        · by_cases h44 : (s[k].toNat : Int) = 44
          · have g44 : ((s[k].toNat : Int) == 44) = true := by simpa using h44
            have hrel2 := erel_comma Hrel.out hkL (by rw [← Hat.out]; exact u8eq h44)
            have HR : Hid (ERel s.data.toList 0 (k + 1) (k + 1) (P ++ [(s.extract fr k).data.toList])) := by
              show ERel _ _ _ _ _
              rw [extract_list]; exact hrel2
            clear h44 hrel2
            rcases keepT (s.extract fr k) with ⟨ht, hkp⟩ | ⟨ht, hkp⟩
            · have HK : Hid (keepP (s.extract fr k).data.toList = []) := hkp
              clear hkp
              go_wp2_with (first | (go_at_call 104; refine (sTrim_any _ _ (by simp [ByteArray.size_extract]; unfold maxLen; omega)).mono ?_; rintro e w1 ⟨rfl, rfl⟩) | (at_builtin; refine wp_sapp rfl _ _ rfl _ _ rfl hbuf (trimB (s.extract fr k)) rfl (by omega) ?_; intro v2 W2 hbuf2))
              go_round
              case rel => exact ⟨k + 1, k + 1, false, P ++ [(s.extract fr k).data.toList], by go_num, rfl, by go_num, by simp; omega, Or.inl ⟨by omega, HR.out, by rw [cleanP_snoc, HK.out, List.append_nil]; exact hbuf⟩⟩
              case measure => simp [intOf] <;> omega
            · have HK : Hid (keepP (s.extract fr k).data.toList = [trimB (s.extract fr k)]) := hkp
              clear hkp
              go_wp2_with (first | (go_at_call 104; refine (sTrim_any _ _ (by simp [ByteArray.size_extract]; unfold maxLen; omega)).mono ?_; rintro e w1 ⟨rfl, rfl⟩) | (at_builtin; refine wp_sapp rfl _ _ rfl _ _ rfl hbuf (trimB (s.extract fr k)) rfl (by omega) ?_; intro v2 W2 hbuf2))
              go_round
              case rel => exact ⟨k + 1, k + 1, false, P ++ [(s.extract fr k).data.toList], by go_num, rfl, by go_num, by simp; omega, Or.inl ⟨by omega, HR.out, by rw [cleanP_snoc, HK.out]; exact hbuf2⟩⟩
              case measure => simp [intOf] <;> omega
          · have g44 : ((s[k].toNat : Int) == 44) = false := by simpa using h44
            have hr := erel_out Hrel.out hkL (by rw [← Hat.out]; exact u8ne h44)
            by_cases h34 : (s[k].toNat : Int) = 34
            · have g34 : ((s[k].toNat : Int) == 34) = true := by simpa using h34
              rw [if_pos (by rw [← Hat.out]; exact u8eq h34)] at hr
              have HR : Hid (ERel s.data.toList 1 fr (k + 1) P) := hr
              clear h44 h34 hr
              go_wp2
              go_round
              case rel => exact ⟨fr, k + 1, true, P, by go_num, rfl, by go_num, by omega, Or.inl ⟨by omega, HR.out, hbuf⟩⟩
              case measure => simp [intOf] <;> omega
            · have g34 : ((s[k].toNat : Int) == 34) = false := by simpa using h34
              rw [if_neg (by rw [← Hat.out]; exact u8ne h34)] at hr
              have HR : Hid (ERel s.data.toList 0 fr (k + 1) P) := hr
              clear h44 h34 hr
              go_wp2
              go_round
              case rel => exact ⟨fr, k + 1, false, P, by go_num, rfl, by go_num, by omega, Or.inl ⟨by omega, HR.out, hbuf⟩⟩
              case measure => simp [intOf] <;> omega
        · have hr := erel_in Hrel.out hkL
          by_cases h34 : (s[k].toNat : Int) = 34
          · have g34 : ((s[k].toNat : Int) == 34) = true := by simpa using h34
            rw [if_pos (by rw [← Hat.out]; exact u8eq h34)] at hr
            have HR : Hid (ERel s.data.toList 0 fr (k + 1) P) := hr
            clear h34 hr
            go_wp2
            go_round
            case rel => exact ⟨fr, k + 1, false, P, by go_num, rfl, by go_num, by omega, Or.inl ⟨by omega, HR.out, hbuf⟩⟩
            case measure => simp [intOf] <;> omega
          · have g34 : ((s[k].toNat : Int) == 34) = false := by simpa using h34
            rw [if_neg (by rw [← Hat.out]; exact u8ne h34)] at hr
            by_cases h92 : (s[k].toNat : Int) = 92
            · have g92 : ((s[k].toNat : Int) == 92) = true := by simpa using h92
              rw [if_pos (by rw [← Hat.out]; exact u8eq h92)] at hr
              by_cases hk1 : (k : Int) + 1 < (s.size : Int)
              · have HR : Hid (ERel s.data.toList 1 fr (k + 2) P) := erel_behind hr (by rw [len_data]; omega)
                clear h34 h92 hr
                go_wp2
                go_round
                case rel => exact ⟨fr, k + 2, true, P, by go_num, rfl, by go_num, by omega, Or.inl ⟨by omega, HR.out, hbuf⟩⟩
                case measure => simp [intOf] <;> omega
              · have HR : Hid (ERel s.data.toList 1 fr (k + 1) P) := by
                  have hz : k + 1 = s.data.toList.length := by rw [len_data]; omega
                  show ERel _ _ _ _ _
                  rw [hz] at hr ⊢
                  exact erel_behind_end hr
                clear h34 h92 hr
                go_wp2
                go_round
                case rel => exact ⟨fr, k + 1, true, P, by go_num, rfl, by go_num, by omega, Or.inl ⟨by omega, HR.out, hbuf⟩⟩
                case measure => simp [intOf] <;> omega
            · have g92 : ((s[k].toNat : Int) == 92) = false := by simpa using h92
              rw [if_neg (by rw [← Hat.out]; exact u8ne h92)] at hr
              have HR : Hid (ERel s.data.toList 1 fr (k + 1) P) := hr
              clear h34 h92 hr
              go_wp2
              go_round
              case rel => exact ⟨fr, k + 1, true, P, by go_num, rfl, by go_num, by omega, Or.inl ⟨by omega, HR.out, hbuf⟩⟩
              case measure => simp [intOf] <;> omega
    · have hgt : ¬ (k : Int) ≤ (s.size : Int) := by omega
      go_wp2
      go_ret
      exact ⟨_, rfl, hbuf⟩
set_option maxHeartbeats 1000000 in
theorem sElements_any (s : ByteArray) (w : World) (hsm : s.size ≤ maxLen) :
    Calls Tryz.prog 107 #[.string s] w fun e w' => ∃ v, e = .returned v ∧ BufS w w' v (elsB s) := by
  by_cases hs : s.size ≤ 4000
  · exact sElements_small s w hs
  · have hb : Hid (elsB s = []) := els_big (by omega)
    have hnb : (4000 : Int) < (s.size : Int) := by omega
    clear hs
    go_enter Tryz.func107, Tryz.ntmps107
    go_wp2
    go_ret
    exact ⟨_, rfl, by rw [hb.out]; exact BufS.start w⟩
end Go.Proofs.YtodandipfjamnaaGreatDoor
namespace Go.Proofs.YtodandipfjamnaaGreatDoor
set_option linter.unusedVariables false
set_option linter.unusedSimpArgs false
open Go.RowKit
theorem joinL_lib : ∀ l : List ByteArray, Lib.join (l.map (·.data.toList)) [44, 32] = joinL l
  | [] => rfl
  | [a] => by simp [Lib.join, joinL, List.intercalate, List.intersperse]
  | a :: b :: r => by
    have ih := joinL_lib (b :: r)
    rw [joinL_two, ← ih]
    simp [Lib.join, List.intercalate, List.intersperse]
theorem joinB_len {l : List Fd} {n : ByteArray} : (joinL (valuesL l n)).length ≤ 3840 := by
  have h1 := joinL_len (valuesL l n) 190 (fun v hv => valuesL_size hv)
  have h2 := valuesL_len l n
  have h3 : (valuesL l n).length * (190 + 2) ≤ 20 * 192 := Nat.mul_le_mul h2 (by omega)
  omega
theorem joinB_size {l : List Fd} {n : ByteArray} : (joinB (valuesL l n)).size ≤ 3840 := by
  show (joinL (valuesL l n)).toArray.size ≤ _
  simpa using joinB_len
theorem Tryz.extraJ : Builder.Extra Tryz.prog Tryz.lays156_ren := { sizeBuilder := by kernel_rfl, liesBuilder := by kernel_rfl, t5 := Tryz.underlying5, a5 := Tryz.isAgg5, z5 := Tryz.sizeOf5, v5 := Tryz.zeroValue5, infoByte := by kernel_rfl, cellsByte := by kernel_rfl, sizeByte := by kernel_rfl, neB5 := by decide }
theorem Join_any (w0 w : World) (v : Value) (l : List ByteArray) (hb : BufS w0 w v l) (hl : l.length ≤ 20) (hlen : (joinL l).length ≤ 3840) :
    Calls Tryz.prog 168 #[v, .string ⟨#[44, 32]⟩] w fun e w' => e = .returned (.string (joinB l)) ∧ Below w.heap.size w w' := by
  rcases hb.own.2 with ⟨h1, h2⟩ | ⟨g, cap, cur, h1, hg, hh, hc, _⟩
  · obtain rfl : l = [] := List.eq_nil_of_length_eq_zero h2
    subst h1
    refine (Any.strings_Join_none Tryz.lays156 Tryz.extraJ none 0 ⟨#[44, 32]⟩ w).mono ?_
    rintro e w' ⟨rfl, rfl⟩
    exact ⟨rfl, Below.refl _ _⟩
  · have hlt := (hb.own.lt g (by rw [h1]; rfl)).2
    have hcell : ∀ (j : Nat) x, l[j]? = some x → w.cell? ⟨g, 0 + j, none⟩ = some (.string x) := by
      intro j x hx
      have := hb.own.cells (g := g) (by rw [h1]; rfl) j (.string x) (by simp [hx])
      rwa [Addr.add_lit] at this
    subst h1
    have := Any.strings_Join Tryz.lays156 Tryz.extraJ g 0 cap l ⟨#[44, 32]⟩ w hcell hlt (by omega) hc (by
      show (Lib.join (l.map (·.data.toList)) [44, 32]).length ≤ _
      rw [joinL_lib]; omega)
    refine this.mono ?_
    rintro e w' ⟨rfl, hb'⟩
    refine ⟨?_, hb'⟩
    show Ending.returned (.string ⟨(Lib.join (l.map (·.data.toList)) [44, 32]).toArray⟩) = _
    rw [joinL_lib]; rfl
set_option maxHeartbeats 1000000 in
theorem Joined_any (v : Value) (l : List Fd) (n : ByteArray) (w : World) (hv : SlF w v l) (hl : l.length ≤ 1048576) (ht : totF l ≤ 1099511627776) (hn : n.size ≤ maxLen) :
    Calls Tryz.prog 125 #[v, .string n] w fun e w' => e = .returned (.string (joinB (valuesL l n))) ∧ Below w.heap.size w w' := by
  have HV := hideB2 (Values_any v l n w hv hl ht hn)
  have HJ := hideB2 (fun w1 v1 (h : BufS w w1 v1 (valuesL l n)) => Join_any w w1 v1 _ h (valuesL_len l n) joinB_len)
  generalize valuesL l n = L at *
  generalize joinB L = R at *
  obtain ⟨a, c0, rfl⟩ := hv.form
  go_enter Tryz.func125, Tryz.ntmps125
  go_wp2_with fail
  refine HV.out.mono ?_
  rintro e w1 ⟨v1, rfl, hb1⟩
  go_wp2_with fail
  refine (HJ.out w1 v1 hb1).mono ?_
  rintro e w2 ⟨rfl, hb2⟩
  have HB := hideB2 (below_then hb1.below hb2)
  clear hb1 hb2
  go_wp2
  go_ret
  exact ⟨rfl, HB.out⟩
theorem joinB_next (l : List ByteArray) (k : Nat) (h : k < l.length) (h0 : 0 < k) : joinB (l.take k) ++ ⟨#[44, 32]⟩ ++ txAt l k = joinB (l.take (k + 1)) := by
  apply bytes_ext
  rw [List.take_succ_eq_append_getElem h]
  show _ = joinL (l.take k ++ [l[k]])
  rw [joinL_snoc _ _ (by intro hh; have := congrArg List.length hh; rw [List.length_take, List.length_nil] at this; omega), txAt_get h]
  simp [Go.Joins.data_append, joinB]
theorem joinB_first (l : List ByteArray) (h : 0 < l.length) : (⟨#[]⟩ : ByteArray) ++ txAt l 0 = joinB (l.take 1) := by
  apply bytes_ext
  rw [List.take_succ_eq_append_getElem h, txAt_get h]
  simp [Go.Joins.data_append, joinB, joinL]
theorem joinL_take (l : List ByteArray) (m k : Nat) (h : ∀ v ∈ l, v.size ≤ m) : (joinL (l.take k)).length ≤ l.length * (m + 2) := by
  have h1 := joinL_len (l.take k) m (fun v hv => h v (List.mem_of_mem_take hv))
  rw [List.length_take] at h1
  exact Nat.le_trans h1 (Nat.mul_le_mul_right _ (by omega))
set_option maxHeartbeats 2000000 in
theorem sJoined_any (v : Value) (l : List Fd) (n : ByteArray) (w : World) (hv : SlF w v l) (hl : l.length ≤ 1048576) (ht : totF l ≤ 1099511627776) (hn : n.size ≤ maxLen) :
    Calls Tryz.prog 108 #[v, .string n] w fun e w' => e = .returned (.string (joinB (valuesL l n))) ∧ Below w.heap.size w w' := by
  have HV := hideB2 (sValues_any v l n w hv hl ht hn)
  have hm := valuesL_len l n
  have HSZ := hideB2 (fun v (h : v ∈ valuesL l n) => valuesL_size h)
  generalize valuesL l n = L at *
  obtain ⟨a, c0, rfl⟩ := hv.form
  go_enter Tryz.func108, Tryz.ntmps108
  go_wp2_with fail
  refine HV.out.mono ?_
  rintro e w1 ⟨v1, rfl, hb1⟩
  have HB := hideB2 hb1.below
  obtain ⟨hs1, _, _⟩ := hb1.ans
  obtain ⟨a1, c1, rfl⟩ := hs1.form
  have HS := hideB2 hs1
  clear hb1 hs1 HV
  generalize hq : L.length = q at *
  have HQ := hideB2 hq
  clear hq
  go_wp2
  go_loop [6, 7] (fun o i => ∃ k : Nat, k ≤ q ∧ i = .int .i64 k ∧ o = .string (joinB (L.take k))) (fun _ i => q - (intOf i).toNat)
  case atStart => exact ⟨0, Nat.zero_le _, rfl, rfl⟩
  case round =>
    obtain ⟨k, hk, rfl, rfl⟩ := hrel
    by_cases hlt : k < q
    · have hklt : k < L.length := by rw [HQ.out]; exact hlt
      obtain ⟨b, rfl, hr⟩ := HS.out.row (by omega)
      have p0 := hr.cell k hklt
      have hsz : (txAt L k).size ≤ 190 := HSZ.out _ (by rw [txAt_get hklt]; exact List.getElem_mem hklt)
      have hsj : (joinB (L.take k)).size ≤ 3840 := by
        have h1 := joinL_take L 190 k HSZ.out
        rw [HQ.out] at h1
        have h3 : q * (190 + 2) ≤ 20 * 192 := Nat.mul_le_mul hm (by omega)
        show (joinL (L.take k)).toArray.size ≤ _
        simp; omega
      by_cases h0 : 0 < k
      · have HNX := hideB2 (joinB_next L k hklt h0)
        have h0' : (0 : Int) < (k : Int) := by omega
        clear hr hklt
        generalize txAt L k = x at *
        generalize joinB (L.take k) = y at *
        go_wp2
        go_round
        case rel => exact ⟨k + 1, by omega, by go_num, by rw [← HNX.out]⟩
        case measure => simp [intOf]; omega
      · obtain rfl : k = 0 := by omega
        have HNX := hideB2 (joinB_first L (by omega))
        have he : joinB (L.take 0) = ⟨#[]⟩ := rfl
        rw [he]
        rw [he] at hsj
        clear hr hklt he
        generalize txAt L 0 = x at *
        go_wp2
        go_round
        case rel => exact ⟨1, by omega, by go_num, by rw [← HNX.out]⟩
        case measure => simp [intOf]; omega
    · obtain rfl : k = q := by omega
      have HE := hideB2 (show L.take k = L from List.take_of_length_le (by rw [HQ.out]; exact Nat.le_refl _))
      rw [HE.out]
      clear HE
      go_wp2
      go_ret
      exact ⟨rfl, HB.out⟩
set_option maxHeartbeats 1000000 in
theorem Words_any (v : Value) (l : List Fd) (n : ByteArray) (w : World) (hv : SlF w v l) (hl : l.length ≤ 1048576) (ht : totF l ≤ 1099511627776) (hn : n.size ≤ maxLen) :
    Calls Tryz.prog 87 #[v, .string n] w fun e w' => ∃ v', e = .returned v' ∧ BufS w w' v' (elsB (joinB (valuesL l n))) := by
  have HV := hideB2 (Joined_any v l n w hv hl ht hn)
  have HE := hideB2 (fun W => Elements_any (joinB (valuesL l n)) W (by have := joinB_size (l := l) (n := n); unfold maxLen; omega))
  generalize joinB (valuesL l n) = R at *
  obtain ⟨a, c0, rfl⟩ := hv.form
  go_enter Tryz.func87, Tryz.ntmps87
  go_wp2_with fail
  refine HV.out.mono ?_
  rintro e w1 ⟨rfl, hb1⟩
  go_wp2_with fail
  refine (HE.out _).mono ?_
  rintro e w2 ⟨v2, rfl, hb2⟩
  have HB := hideB2 (hb2.base hb1)
  clear hb1 hb2
  go_wp2
  go_ret
  exact ⟨_, rfl, HB.out⟩
set_option maxHeartbeats 1000000 in
theorem sWords_any (v : Value) (l : List Fd) (n : ByteArray) (w : World) (hv : SlF w v l) (hl : l.length ≤ 1048576) (ht : totF l ≤ 1099511627776) (hn : n.size ≤ maxLen) :
    Calls Tryz.prog 72 #[v, .string n] w fun e w' => ∃ v', e = .returned v' ∧ BufS w w' v' (elsB (joinB (valuesL l n))) := by
  have HV := hideB2 (sJoined_any v l n w hv hl ht hn)
  have HE := hideB2 (fun W => sElements_any (joinB (valuesL l n)) W (by have := joinB_size (l := l) (n := n); unfold maxLen; omega))
  generalize joinB (valuesL l n) = R at *
  obtain ⟨a, c0, rfl⟩ := hv.form
  go_enter Tryz.func72, Tryz.ntmps72
  go_wp2_with fail
  refine HV.out.mono ?_
  rintro e w1 ⟨rfl, hb1⟩
  go_wp2_with fail
  refine (HE.out _).mono ?_
  rintro e w2 ⟨v2, rfl, hb2⟩
  have HB := hideB2 (hb2.base hb1)
  clear hb1 hb2
  go_wp2
  go_ret
  exact ⟨_, rfl, HB.out⟩
end Go.Proofs.YtodandipfjamnaaGreatDoor
namespace Go.Proofs.YtodandipfjamnaaGreatDoor
set_option linter.unusedVariables false
set_option linter.unusedSimpArgs false
open Go.RowKit
theorem elG_len : ∀ (l : List UInt8) (q : Nat) (cur : List UInt8), (elG q cur l).length ≤ l.length + 1
  | [], q, cur => by rw [elG_nil]; simp
  | b :: r, 0, cur => by
    rw [elG]; split
    · have := elG_len r 0 []; simp; omega
    · have := elG_len r (if b = 34 then 1 else 0) (cur ++ [b]); simp; omega
  | b :: r, 1, cur => by
    rw [elG]
    have := elG_len r (if b = 34 then 0 else if b = 92 then 2 else 1) (cur ++ [b]); simp; omega
  | b :: r, n + 2, cur => by
    rw [elG]
    · have := elG_len r 1 (cur ++ [b]); simp; omega
    · omega
    · omega
theorem elsB_len (s : ByteArray) : (elsB s).length ≤ 4001 := by
  unfold elsB
  split
  · rename_i h
    have h1 := cleanP_len (elG 0 [] s.data.toList)
    have h2 := elG_len s.data.toList 0 []
    rw [len_data] at h2
    omega
  · simp
end Go.Proofs.YtodandipfjamnaaGreatDoor
namespace Go.Proofs.YtodandipfjamnaaGreatDoor
set_option linter.unusedVariables false
set_option linter.unusedSimpArgs false
open Go.RowKit
theorem elsB_sz (s : ByteArray) (h : s.size ≤ 4000) : ∀ t ∈ elsB s, t.size ≤ 100000 := by
  have key : ∀ (L : List UInt8) (q : Nat) (cur : List UInt8), ∀ p ∈ elG q cur L, p.length ≤ cur.length + L.length := by
    intro L
    induction L with
    | nil => intro q cur p hp; rw [elG_nil] at hp; simp at hp; subst hp; simp
    | cons b r ih =>
      intro q cur p hp
      match q with
      | 0 =>
        rw [elG] at hp
        split at hp
        · rcases List.mem_cons.1 hp with rfl | hp
          · simp
          · have := ih 0 [] p hp; simp at this ⊢; omega
        · have := ih _ _ p hp; simp at this ⊢; omega
      | 1 => rw [elG] at hp; have := ih _ _ p hp; simp at this ⊢; omega
      | n + 2 =>
        rw [elG] at hp
        · have := ih _ _ p hp; simp at this ⊢; omega
        · omega
        · omega
  intro t ht
  rw [els_small h] at ht
  unfold cleanP at ht
  rw [List.mem_flatMap] at ht
  obtain ⟨p, hp, ht⟩ := ht
  unfold keepP at ht
  split at ht
  · simp at ht
  · simp at ht
    subst ht
    have h1 := key _ _ _ p hp
    rw [len_data] at h1
    have h2 : (trimL p).length ≤ p.length := by
      have := trimB_size ⟨p.toArray⟩
      show (trimL p).length ≤ _
      have e : (trimB ⟨p.toArray⟩).size = (trimL p).length := by show (trimL p).toArray.size = _; simp
      have e2 : (ByteArray.mk p.toArray).size = p.length := by show p.toArray.size = _; simp
      omega
    show (trimL p).toArray.size ≤ _
    simp at h1 ⊢; omega
end Go.Proofs.YtodandipfjamnaaGreatDoor
namespace Go.Proofs.YtodandipfjamnaaGreatDoor
set_option linter.unusedVariables false
set_option linter.unusedSimpArgs false
open Go.RowKit
def chB : ByteArray := ⟨#[99, 104, 117, 110, 107, 101, 100]⟩
def tAt (l : List ByteArray) (j : Nat) : ByteArray := l.getD j ⟨#[]⟩
def wordsL (l : List Fd) (n : ByteArray) : List ByteArray := elsB (joinB (valuesL l n))
/-- Is 'chunked' the only word? -/
def chkQ (ws : List ByteArray) : Bool := ((ws.length : Int) == 1) && eqB (foldB (tAt ws 0)) chB
/-- Are all words the same number? -/
def sameW (ws : List ByteArray) : Bool := ws.all fun x => eqB x (tAt ws 0)
def oneO (ws : List ByteArray) : Bool := !((ws.length : Int) == 0) && sameW ws && rdecOk (tAt ws 0)
def oneN (ws : List ByteArray) : Int := if oneO ws = true then rdecN (tAt ws 0) else 0
def teQ (l : List Fd) : Bool := getO l teN
def clQ (l : List Fd) : Bool := getO l clN
def frK (l : List Fd) (answer bare : Bool) : Int :=
  if fieldsQ l = false then 4
  else if teQ l = true ∧ (clQ l = true ∨ chkQ (wordsL l teN) = false) then 4
  else if clQ l = true ∧ oneO (wordsL l clN) = false then 4
  else if bare = true then 0
  else if teQ l = true then 2
  else if clQ l = true then 1
  else if answer = true then 3
  else 0
def frN (l : List Fd) (answer bare : Bool) : Int := if frK l answer bare = 1 then oneN (wordsL l clN) else 0
theorem words_len (l : List Fd) (n : ByteArray) : (wordsL l n).length ≤ 4001 := elsB_len _
theorem words_size (l : List Fd) (n : ByteArray) : ∀ j, (tAt (wordsL l n) j).size ≤ maxLen := by
  intro j
  unfold tAt maxLen
  rcases Nat.lt_or_ge j (wordsL l n).length with h | h
  · rw [List.getD, List.getElem?_eq_getElem h]
    have h2 : ((wordsL l n)[j]).size ≤ 100000 := elsB_sz (joinB (valuesL l n)) (by have := joinB_size (l := l) (n := n); omega) _ (List.getElem_mem h)
    show ((wordsL l n)[j]).size ≤ _
    omega
  · rw [List.getD, List.getElem?_eq_none h]
    show (0 : Nat) ≤ _
    omega
theorem sameW_yes {ws : List ByteArray} (h : ∀ j, j < ws.length → tAt ws j = tAt ws 0) : sameW ws = true := by
  unfold sameW
  rw [List.all_eq_true]
  intro x hx
  obtain ⟨j, hj, rfl⟩ := List.mem_iff_getElem.1 hx
  have := h j hj
  unfold tAt at this
  rw [List.getD, List.getElem?_eq_getElem hj] at this
  rw [eqB_iff]
  exact this
theorem sameW_no {ws : List ByteArray} {k : Nat} (hk : k < ws.length) (h : ¬ tAt ws k = tAt ws 0) : sameW ws = false := by
  cases hs : sameW ws with
  | false => rfl
  | true =>
    exfalso
    unfold sameW at hs
    rw [List.all_eq_true] at hs
    have := eqB_iff.1 (hs _ (List.getElem_mem hk))
    apply h
    rw [← this]
    unfold tAt
    rw [List.getD, List.getElem?_eq_getElem hk]
    rfl
theorem sameW_at {ws : List ByteArray} (h : sameW ws = true) {k : Nat} (hk : k < ws.length) : tAt ws k = tAt ws 0 := by
  by_cases h1 : tAt ws k = tAt ws 0
  · exact h1
  · rw [sameW_no hk h1] at h; cases h
theorem rdec_inj {a b : ByteArray} (ha : rdecOk a = true) (hb : rdecOk b = true) (h : rdecN a = rdecN b) : a = b := by
  unfold rdecOk rdecN at *
  obtain ⟨u, hu⟩ := Option.isSome_iff_exists.1 ha
  obtain ⟨v, hv⟩ := Option.isSome_iff_exists.1 hb
  rw [hu, hv] at h
  simp only [Option.getD_some] at h
  have huv : u = v := by omega
  subst huv
  have key : ∀ {s : ByteArray}, rdec s = some u → s.data.toList = Lib.decDigits u := by
    intro s hs
    unfold rdec at hs
    split at hs
    · rename_i hc
      have := Option.some.inj hs
      rw [← this]; exact hc.2.2.2.symm
    · cases hs
  apply bytes_ext
  rw [key hu, key hv]
theorem frK_no {l : List Fd} {answer bare : Bool} (h : fieldsQ l = false) : frK l answer bare = 4 ∧ frN l answer bare = 0 := by
  have h1 : frK l answer bare = 4 := by unfold frK; rw [if_pos h]
  exact ⟨h1, by unfold frN; rw [h1]; rfl⟩
/-- The kind and the number, of what was found. -/
def frK2 (te cl chk one answer bare : Bool) : Int := if te = true ∧ (cl = true ∨ chk = false) then 4 else if cl = true ∧ one = false then 4 else if bare = true then 0 else if te = true then 2 else if cl = true then 1 else if answer = true then 3 else 0
def frN2 (te cl chk one answer bare : Bool) (n : Int) : Int := if frK2 te cl chk one answer bare = 1 then n else 0
theorem frK_yes {l : List Fd} {answer bare : Bool} (h : fieldsQ l = true) : frK l answer bare = frK2 (teQ l) (clQ l) (chkQ (wordsL l teN)) (oneO (wordsL l clN)) answer bare ∧ frN l answer bare = frN2 (teQ l) (clQ l) (chkQ (wordsL l teN)) (oneO (wordsL l clN)) answer bare (oneN (wordsL l clN)) := by
  have h1 : frK l answer bare = frK2 (teQ l) (clQ l) (chkQ (wordsL l teN)) (oneO (wordsL l clN)) answer bare := by unfold frK; rw [if_neg (by rw [h]; simp)]; rfl
  exact ⟨h1, by unfold frN frN2; rw [h1]⟩
end Go.Proofs.YtodandipfjamnaaGreatDoor
namespace Go.Proofs.YtodandipfjamnaaGreatDoor
set_option linter.unusedVariables false
set_option linter.unusedSimpArgs false
open Go.RowKit
/-- A body, by what bounds it. -/
def bodX (s : ByteArray) (k n : Int) : Except Int ByteArray :=
  if k = 0 then (if s.size = 0 then .ok s else .error 400)
  else if k = 1 then (if 600 < n then .error 413 else if (s.size : Int) = n then .ok s else .error 400)
  else if k = 2 then ckX s
  else if k = 3 then (if 600 < s.size then .error 413 else .ok s)
  else .error 400
def bareR (answer head : Bool) (n : Int) : Bool := answer && (head || bareSt n)
def mgR (answer head : Bool) (h : Fl) (fs : List Fd) (body : ByteArray) : Mg := ⟨h.1, h.2.1, h.2.2.1, h.2.2.2, bareR answer head h.2.2.1, unfrL fs, body⟩
/-- A whole message. -/
def msX (answer head : Bool) (s : ByteArray) : Except Int Mg :=
  match hdX answer s with
  | .error c => .error c
  | .ok (h, fs, m) =>
    match bodX (s.extract m s.size) (frK fs answer (bareR answer head h.2.2.1)) (frN fs answer (bareR answer head h.2.2.1)) with
    | .error c => .error c
    | .ok body => if msgQ (mgR answer head h fs body) = true then .ok (mgR answer head h fs body) else .error 431
theorem ckR_size {s : ByteArray} : ∀ {n k : Nat} {body b : ByteArray}, body.size ≤ 600 → ckR s n k body = .ok b → b.size ≤ 600
  | 0, _, _, _, _, h => by rw [ckR] at h; cases h
  | n + 1, k, body, b, hb, h => by
    rw [ckR] at h
    split at h
    · cases h
    · split at h
      · cases h
      · split at h
        · cases h
        · rename_i h3
          split at h
          · split at h
            · injection h with h; subst h; exact hb
            · cases h
          · split at h
            · refine ckR_size ?_ h
              have hd := rhexN_bd (uptoS (lineAt s k))
              obtain ⟨z, hz⟩ := Int.eq_ofNat_of_zero_le hd.1
              rw [hz] at h3 ⊢
              have : (body ++ s.extract (tlE s k + 2) (tlE s k + 2 + (z : Int).toNat)).size = body.size + (s.extract (tlE s k + 2) (tlE s k + 2 + (z : Int).toNat)).size := by rw [ByteArray.size_append]
              rw [this, ByteArray.size_extract]
              simp only [Int.toNat_natCast]
              omega
            · cases h
theorem bodX_size {s : ByteArray} {k n : Int} {b : ByteArray} (hs : s.size ≤ 4000) (h : bodX s k n = .ok b) : b.size ≤ 4000 := by
  unfold bodX at h
  split at h
  · split at h
    · injection h with h; subst h; exact hs
    · cases h
  · split at h
    · split at h
      · cases h
      · split at h
        · injection h with h; subst h; exact hs
        · cases h
    · split at h
      · have := ckR_size (by exact Nat.zero_le 600) h; omega
      · split at h
        · split at h
          · cases h
          · injection h with h; subst h; exact hs
        · cases h
theorem fieldsQ_filter {l : List Fd} (p : Fd → Bool) (h : fieldsQ l = true) : fieldsQ (l.filter p) = true := by
  have h1 := fieldsQ_iff.1 h
  refine fieldsQ_iff.2 ⟨Nat.le_trans (List.length_filter_le _ _) h1.1, fun x hx => h1.2 x (List.mem_filter.1 hx).1⟩
theorem fold_clN : foldB clN = clN := by kernel_rfl
theorem fold_teN : foldB teN = teN := by kernel_rfl
theorem fold_trN : foldB trN = trN := by kernel_rfl
/-- The program's unframed is the specification's thrice without. -/
theorem unfr_without (l : List Fd) (h : fieldsQ l = true) : withoutL (withoutL (withoutL l clN) teN) trN = unfrL l := by
  have h1 : withoutL l clN = l.filter (fun x => !nameIs clN x) := by unfold withoutL; rw [if_pos h]
  have q1 := fieldsQ_filter (fun x => !nameIs clN x) h
  have h2 : withoutL (l.filter (fun x => !nameIs clN x)) teN = (l.filter (fun x => !nameIs clN x)).filter (fun x => !nameIs teN x) := by unfold withoutL; rw [if_pos q1]
  have q2 := fieldsQ_filter (fun x => !nameIs teN x) q1
  have h3 : withoutL ((l.filter (fun x => !nameIs clN x)).filter (fun x => !nameIs teN x)) trN = ((l.filter (fun x => !nameIs clN x)).filter (fun x => !nameIs teN x)).filter (fun x => !nameIs trN x) := by unfold withoutL; rw [if_pos q2]
  rw [h1, h2, h3, List.filter_filter, List.filter_filter]
  unfold unfrL
  refine congrArg (fun f => List.filter f l) ?_
  funext x
  unfold nameIs frmN
  rw [fold_clN, fold_teN, fold_trN]
  cases eqB (foldB x.1) clN <;> cases eqB (foldB x.1) teN <;> cases eqB (foldB x.1) trN <;> rfl
/-- The message that was read; none: the zero value. -/
def exM : Except Int Mg → Mg
  | .ok g => g
  | .error _ => mg0
theorem unfr_le (l : List Fd) : (unfrL l).length ≤ l.length := List.length_filter_le _ _
theorem exM_len (answer head : Bool) (s : ByteArray) : (exM (msX answer head s)).fs.length ≤ 20 := by
  unfold msX
  cases h : hdX answer s with
  | error c => exact Nat.zero_le _
  | ok x =>
    obtain ⟨⟨a, b, n, r⟩, fs, m⟩ := x
    have h1 := (hdX_facts h).2.2.2.2.1
    simp only
    cases bodX (s.extract m s.size) (frK fs answer (bareR answer head n)) (frN fs answer (bareR answer head n)) with
    | error c => exact Nat.zero_le _
    | ok body =>
      simp only
      split
      · have h2 := unfr_le fs
        simp only [exM, mgR]
        omega
      · exact Nat.zero_le _
theorem msX_bad {answer head : Bool} {s : ByteArray} {c : Int} (h : hdX answer s = .error c) : msX answer head s = .error c := by unfold msX; rw [h]
theorem msX_body {answer head : Bool} {s : ByteArray} {h : Fl} {fs : List Fd} {m : Nat} {c : Int} (h1 : hdX answer s = .ok (h, fs, m)) (h2 : bodX (s.extract m s.size) (frK fs answer (bareR answer head h.2.2.1)) (frN fs answer (bareR answer head h.2.2.1)) = .error c) : msX answer head s = .error c := by
  unfold msX; rw [h1]; simp only; rw [h2]
theorem msX_no {answer head : Bool} {s : ByteArray} {h : Fl} {fs : List Fd} {m : Nat} {body : ByteArray} (h1 : hdX answer s = .ok (h, fs, m)) (h2 : bodX (s.extract m s.size) (frK fs answer (bareR answer head h.2.2.1)) (frN fs answer (bareR answer head h.2.2.1)) = .ok body) (h3 : msgQ (mgR answer head h fs body) = false) : msX answer head s = .error 431 := by
  unfold msX; rw [h1]; simp only; rw [h2]; simp only; rw [if_neg (by rw [h3]; simp)]
theorem msX_yes {answer head : Bool} {s : ByteArray} {h : Fl} {fs : List Fd} {m : Nat} {body : ByteArray} (h1 : hdX answer s = .ok (h, fs, m)) (h2 : bodX (s.extract m s.size) (frK fs answer (bareR answer head h.2.2.1)) (frN fs answer (bareR answer head h.2.2.1)) = .ok body) (h3 : msgQ (mgR answer head h fs body) = true) : msX answer head s = .ok (mgR answer head h fs body) := by
  unfold msX; rw [h1]; simp only; rw [h2]; simp only; rw [if_pos h3]
theorem lnR_err {s : ByteArray} : ∀ {n k : Nat} {acc : List Fd} {c : Int}, lnR s n k acc = .error c → c ≠ 0
  | 0, _, _, _, h => by rw [lnR] at h; injection h with h; subst h; decide
  | n + 1, k, acc, c, h => by
    rw [lnR] at h
    split at h
    · rename_i h0; injection h with h; subst h; exact h0
    · split at h
      · cases h
      · split at h
        · injection h with h; subst h; decide
        · split at h
          · exact lnR_err h
          · injection h with h; subst h; decide
theorem hdX_err {answer : Bool} {s : ByteArray} {c : Int} (h : hdX answer s = .error c) : c ≠ 0 := by
  unfold hdX at h
  split at h
  · injection h with h; subst h; decide
  · split at h
    · rename_i h0; injection h with h; subst h; exact h0
    · cases hf : flX answer (lineAt s 0) with
      | none => rw [hdZ_none hf] at h; injection h with h; subst h; decide
      | some x =>
        cases hl : lnR s 21 (tlE s 0 + 2) [] with
        | error d => rw [hdZ_bad hf hl] at h; injection h with h; subst h; exact lnR_err hl
        | ok y => obtain ⟨fs, m⟩ := y; rw [hdZ_ok hf hl] at h; cases h
theorem ckR_err {s : ByteArray} : ∀ {n k : Nat} {body : ByteArray} {c : Int}, ckR s n k body = .error c → c ≠ 0
  | 0, _, _, _, h => by rw [ckR] at h; injection h with h; subst h; decide
  | n + 1, k, body, c, h => by
    rw [ckR] at h
    split at h
    · injection h with h; subst h; decide
    · split at h
      · injection h with h; subst h; decide
      · split at h
        · injection h with h; subst h; decide
        · split at h
          · split at h
            · cases h
            · injection h with h; subst h; decide
          · split at h
            · exact ckR_err h
            · injection h with h; subst h; decide
theorem bodX_err {s : ByteArray} {k n : Int} {c : Int} (h : bodX s k n = .error c) : c ≠ 0 := by
  unfold bodX at h
  split at h
  · split at h
    · cases h
    · injection h with h; subst h; decide
  · split at h
    · split at h
      · injection h with h; subst h; decide
      · split at h
        · cases h
        · injection h with h; subst h; decide
    · split at h
      · exact ckR_err h
      · split at h
        · split at h
          · injection h with h; subst h; decide
          · cases h
        · injection h with h; subst h; decide
theorem fieldsQ_of {l : List Fd} (h1 : l.length ≤ 20) (h2 : ∀ x ∈ l, fieldQ x = true) : fieldsQ l = true := fieldsQ_iff.2 ⟨h1, h2⟩
theorem fieldsQ_bds {l : List Fd} (h : fieldsQ l = true) : l.length ≤ 20 ∧ totF l ≤ 4600 := by
  have h1 := fieldsQ_iff.1 h
  have h2 := totF_of h1.2
  exact ⟨h1.1, by have := h1.1; omega⟩
theorem withoutL_fieldsQ {l : List Fd} (n : ByteArray) (h : fieldsQ l = true) : fieldsQ (withoutL l n) = true := by
  unfold withoutL
  rw [if_pos h]
  exact fieldsQ_filter _ h
end Go.Proofs.YtodandipfjamnaaGreatDoor
