/-
  Chapter 6: ReadHead; the specification's side. · What every frame of this seat shares. · What a card of a door seat of chapter 1 needs: the listed tables.
-/
import Derived.Test.YtodandipfjamnaaDoorJ5
import Derived.Test.YtodandipfjamnaaDoorJ3
import Derived.Test.YtodandipfjamnaaDoorJ4
import Derived.WalkMore
import Derived.Test.YtodandipfjamnaaDoorRows
import Derived.WalkKit
import Derived.ProofKit
import Derived.OpenShut
import Derived.ShutString
import Derived.ChangeOld
import Derived.Below
import Derived.Lib.SmallJoins
import Derived.Lib.LaidTab
import Derived.LaidLaws
import Derived.LaidHandle
import Derived.ChangeVars
import Derived.OpenVars
import Derived.SevenTiedAt
namespace Go.Proofs.YtodandipfjamnaaDoor
set_option linter.unusedVariables false
set_option linter.unusedSimpArgs false
open Go.RowKit
def contX (h : Fl) : Except Int (List Fd × Nat) → Except Int (Fl × List Fd × Nat)
  | .error c => .error c
  | .ok (fs, m) => .ok (h, fs, m)
theorem hdZ_some {answer : Bool} {s : ByteArray} {x : Fl} (h : flX answer (lineAt s 0) = some x) : hdZ answer s = contX x (lnR s 21 (tlE s 0 + 2) []) := by
  cases hl : lnR s 21 (tlE s 0 + 2) [] with
  | error c => exact hdZ_bad h hl
  | ok y => obtain ⟨fs, m⟩ := y; exact hdZ_ok h hl
theorem hdX_bad {answer : Bool} {s : ByteArray} (h1 : ¬ 4000 < s.size) (h2 : hlC s 0 ≠ 0) : hdX answer s = .error (hlC s 0) := by unfold hdX; rw [if_neg h1, if_pos h2]
/-- How many fields a message holds that lies at g. -/
def fldN (g : Nat) (w : World) : Nat :=
  match w.cell? ⟨g, 5, none⟩ with
  | some (.slice _ n _) => n
  | _ => 0
def fstN (v : Value) : Nat :=
  match v with
  | .bool true => 22
  | _ => 0
/-- A line of a head has a code: 400 or 431. -/
theorem hlC_431 {s : ByteArray} {k : Nat} (h : tlC s k = 0) (h2 : hlC s k ≠ 0) : hlC s k = 431 ∧ (300 < tlE s k - k ∨ 1500 < tlE s k + 2) := by
  unfold hlC at *
  rw [if_pos h] at *
  split at h2
  · rename_i h3; rw [if_pos h3]; exact ⟨rfl, h3⟩
  · exact absurd rfl h2
set_option maxRecDepth 100000 in
set_option maxHeartbeats 16000000 in
theorem sReadHead_any (s : ByteArray) (answer : Bool) (w : World) (hs : s.size ≤ 1048576) :
    Calls Tryd.prog 4 #[.string s, .bool answer] w fun e w' => ∃ v, e = .returned (.tuple #[mgV (hdM (hdX answer s)) v, .int .i64 (hdN (hdX answer s) : Int), .int .i64 (exC (hdX answer s))]) ∧ BufF w w' v (hdM (hdX answer s)).fs := by
  by_cases h1 : (4000 : Int) < (s.size : Int)
  · have hX : hdX answer s = .error 413 := by unfold hdX; rw [if_pos (by omega)]
    rw [hX]
    go_enter Tryd.func4, Tryd.ntmps4
    go_wp2
    refine bodyPost_ret (results_cellTT rfl _ _ _ rfl (Blk.new _ _ _) Tryd.underlying24 Tryd.infoMsg) rfl ⟨.slice none 0 0, ?_, ?_⟩
    · rfl
    · exact (BufF.start w).later (below_a1 _ _)
  · have d1 : decide ((4000 : Int) < (s.size : Int)) = false := decide_eq_false h1
    have HSM : Hid (s.size ≤ maxLen) := by show _ ≤ _; unfold maxLen; omega
    have HXB := hideB2 (fun h => hdX_bad (answer := answer) (s := s) (by omega) h)
    have HXG := hideB2 (fun h => hdX_go (answer := answer) (s := s) (by omega) h)
    generalize hdX answer s = X at *
    have o0_0 : Blk (w.alloc (.cells #[.string ⟨#[]⟩, .string ⟨#[]⟩, .int .i64 0, .string ⟨#[]⟩, .bool false, .slice none 0 0, .string ⟨#[]⟩] 24)) w.heap.size #[.string ⟨#[]⟩, .string ⟨#[]⟩, .int .i64 0, .string ⟨#[]⟩, .bool false, .slice none 0 0, .string ⟨#[]⟩] 24 := Blk.new w _ _
    have b1 := below_a1 w (.cells #[.string ⟨#[]⟩, .string ⟨#[]⟩, .int .i64 0, .string ⟨#[]⟩, .bool false, .slice none 0 0, .string ⟨#[]⟩] 24)
    generalize hW1 : w.alloc (.cells #[.string ⟨#[]⟩, .string ⟨#[]⟩, .int .i64 0, .string ⟨#[]⟩, .bool false, .slice none 0 0, .string ⟨#[]⟩] 24) = W1 at *
    have n1 : W1.heap.size = w.heap.size + 1 := by rw [← hW1]; simp
    have o1_1 : Blk (W1.alloc (.cells #[.string ⟨#[]⟩, .string ⟨#[]⟩, .int .i64 0, .string ⟨#[]⟩, .bool false, .slice none 0 0, .string ⟨#[]⟩] 24)) (w.heap.size + 1) #[.string ⟨#[]⟩, .string ⟨#[]⟩, .int .i64 0, .string ⟨#[]⟩, .bool false, .slice none 0 0, .string ⟨#[]⟩] 24 := by rw [← n1]; exact Blk.new W1 _ _
    have o0_1 := o0_0.alloc (.cells #[.string ⟨#[]⟩, .string ⟨#[]⟩, .int .i64 0, .string ⟨#[]⟩, .bool false, .slice none 0 0, .string ⟨#[]⟩] 24)
    have b2 := below_then b1 (below_a1 W1 (.cells #[.string ⟨#[]⟩, .string ⟨#[]⟩, .int .i64 0, .string ⟨#[]⟩, .bool false, .slice none 0 0, .string ⟨#[]⟩] 24))
    generalize hW2 : W1.alloc (.cells #[.string ⟨#[]⟩, .string ⟨#[]⟩, .int .i64 0, .string ⟨#[]⟩, .bool false, .slice none 0 0, .string ⟨#[]⟩] 24) = W2 at *
    have n2 : W2.heap.size = w.heap.size + 1 + 1 := by rw [← hW2]; simp [n1]
    have o2_2 : Blk (W2.alloc (.cells #[.string s, .int .i64 0] 31)) (w.heap.size + 1 + 1) #[.string s, .int .i64 0] 31 := by rw [← n2]; exact Blk.new W2 _ _
    have o1_2 := o1_1.alloc (.cells #[.string s, .int .i64 0] 31)
    have o0_2 := o0_1.alloc (.cells #[.string s, .int .i64 0] 31)
    have b3 := below_then b2 (below_a1 W2 (.cells #[.string s, .int .i64 0] 31))
    have n3 : (W2.alloc (.cells #[.string s, .int .i64 0] 31)).heap.size = w.heap.size + 1 + 1 + 1 := by simp [n2]
    have HA3 := hideB2 o0_2
    have HM3 := hideB2 o1_2
    have HC3 := hideB2 o2_2
    have HB3 := hideB2 b3
    have HN3 := hideB2 n3
    subst hW2
    subst hW1
    clear o0_0 o0_1 o0_2 o1_1 o1_2 o2_2 b1 b2 b3 n1 n2 n3
    go_enter Tryd.func4, Tryd.ntmps4
    go_wp2
    generalize hW : World.alloc _ (.cells #[.string s, .int .i64 0] 31) = W3 at *
    clear hW
    have hl1 : w.heap.size < w.heap.size + 1 := by omega
    have hl2 : w.heap.size + 1 < w.heap.size + 1 + 1 := by omega
    have hl3 : w.heap.size + 1 + 1 < w.heap.size + 1 + 1 + 1 := by omega
    generalize hGB : w.heap.size + 1 + 1 + 1 = GB at *
    generalize hG2 : w.heap.size + 1 + 1 = G2 at *
    generalize hG1 : w.heap.size + 1 = G1 at *
    clear hGB hG2 hG1
    go_loopw [9] (fun f wr => ∃ (first : Bool) (k : Nat) (a b : ByteArray) (n : Int) (r : ByteArray) (acc : List Fd) (v : Value), f = .bool first ∧ k ≤ s.size ∧ acc.length ≤ 20 ∧ Hid (first = false → contX (a, b, n, r) (lnR s (21 - acc.length) k acc) = X) ∧ Hid (first = true → k = 0 ∧ a = ⟨#[]⟩ ∧ b = ⟨#[]⟩ ∧ n = 0 ∧ r = ⟨#[]⟩ ∧ acc = [] ∧ v = .slice none 0 0) ∧ Blk wr w.heap.size #[.string ⟨#[]⟩, .string ⟨#[]⟩, .int .i64 0, .string ⟨#[]⟩, .bool false, .slice none 0 0, .string ⟨#[]⟩] 24 ∧ Blk wr G2 #[.string s, .int .i64 (k : Int)] 31 ∧ Blk wr G1 #[.string a, .string b, .int .i64 n, .string r, .bool false, v, .string ⟨#[]⟩] 24 ∧ OwF GB wr v acc ∧ Below w.heap.size w wr) (fun f wr => fstN f + (21 - fldN G1 wr))
    case atStart => exact ⟨true, 0, ⟨#[]⟩, ⟨#[]⟩, 0, ⟨#[]⟩, [], .slice none 0 0, rfl, Nat.zero_le _, Nat.zero_le _, (fun h => by cases h), (fun _ => ⟨rfl, rfl, rfl, rfl, rfl, rfl, rfl⟩), HA3.out, HC3.out, HM3.out, OwF.start (by rw [HN3.out]; exact Nat.le_refl _), HB3.out⟩
    case round =>
      obtain ⟨first, k, a, b, n, r, acc, v, rfl, hk, hacc, hy, hf, ha, hc, hm, hown, hbw⟩ := hrel
      clear HA3 HC3 HM3 HB3 HN3
      have HXK : Hid (hlC s k ≠ 0 → X = .error (hlC s k)) := by
        show _ → _
        intro h
        cases first
        · have h2 := hy.out rfl
          rw [show 21 - acc.length = (20 - acc.length) + 1 by omega, lnR_bad h] at h2
          exact h2.symm
        · have h2 := (hf.out rfl).1
          subst h2
          exact HXB.out h
      obtain ⟨va, vc, rfl⟩ := hown.form
      obtain ⟨c0, c1⟩ := hc.c2
      have HA := hideB2 ha
      have HCc := hideB2 hc
      have HM := hideB2 hm
      have HMR := HM
      have HOw := hideB2 hown
      have HBw := hideB2 hbw
      clear ha hc hm hown hbw
      by_cases htc : tlC s k = 0
      · have HT : Hid (∀ W, Calls Tryd.prog 9 #[.agg #[.string s, .int .i64 (k : Int)]] W fun e w' => e = .returned (.tuple #[.string (lineAt s k), .agg #[.string s, .int .i64 ((tlE s k : Int) + 2)], .int .i64 0]) ∧ Below W.heap.size W w') := by
          show ∀ W, _
          intro W
          have := sTakeLine_ok s k W HSM.out hk
          rw [tlV_ok htc] at this
          exact this
        have hE := tlE_ok hk htc
        have hz2 := lineAt_size (s := s) (k := k) hk
        have hn := lenE_nil2 hk
        have hge := tlE_ge s k
        rw [show (tlE s k : Int) + 2 = ((tlE s k + 2 : Nat) : Int) by omega] at HT
        by_cases h0 : hlC s k = 0
        · have hlen := hlC_zero h0
          have d300 : decide ((300 : Int) < ((lineAt s k).size : Int)) = false := decide_eq_false (by omega)
          have d1500 : decide ((1500 : Int) < ((tlE s k + 2 : Nat) : Int)) = false := decide_eq_false (by omega)
          have HLZ : Hid ((lineAt s k).size ≤ 1048576) := by show _ ≤ _; omega
          have HFN := hideB2 (fun h1 h2 => lnR_full (n := 20 - acc.length) (acc := acc) h0 h1 h2)
          have HFE := hideB2 (fun h1 => lnR_end (n := 20 - acc.length) (acc := acc) h0 h1)
          have HFB := hideB2 (fun h1 h2 h3 => lnR_no (n := 20 - acc.length) (acc := acc) h0 h1 h2 h3)
          have HFO := hideB2 (fun h1 h2 h3 => lnR_next (n := 20 - acc.length) (acc := acc) h0 h1 h2 h3)
          have HN21 := hideB2 (show 21 - acc.length = (20 - acc.length) + 1 by omega)
          cases first
          · have HY := hideB2 (hy.out rfl)
            clear hy hf HXK HXB HXG
            by_cases he : tlE s k = k
            · obtain rfl : X = .ok ((a, b, n, r), acc, k + 2) := by rw [← HY.out, HN21.out, HFE.out he]; rfl
              rw [decide_eq_true he] at hn
              rw [he] at HT d1500
              clear HFN HFE HFB HFO HY he hE hge hz2 hlen h0 htc
              generalize lineAt s k = L at *
              generalize hK : k + 2 = K2 at *
              go_wp2_with fail
              refine (HT.out _).mono ?_
              rintro e w4 ⟨rfl, hb4⟩
              have C4 := HCc.out.later hb4
              have M4 := HM.out.later hb4
              have A4 := HA.out.later hb4
              have hlc := C4.lt
              obtain ⟨x0, x1⟩ := C4.c2
              have y0 := C4.free 0
              have y1 := C4.free 1
              have M5 := (M4.oth2 (g := G2) (by omega) (.string s) (.int .i64 (K2 : Int))).alloc (.cells #[.string s, .int .i64 (K2 : Int)] 31)
              have A5 := (A4.oth2 (g := G2) (by omega) (.string s) (.int .i64 (K2 : Int))).alloc (.cells #[.string s, .int .i64 (K2 : Int)] 31)
              have C5 := (C4.set2 (.string s) (.int .i64 (K2 : Int))).alloc (.cells #[.string s, .int .i64 (K2 : Int)] 31)
              have O5 := ((((HOw.out.later hb4).set (g := G2) (by omega) 0 (.string s)).set (g := G2) (by omega) 1 (.int .i64 (K2 : Int)))).alloc (.cells #[.string s, .int .i64 (K2 : Int)] 31)
              have hbw5 := below_then (below_set2 (g := G2) (below_then HBw.out hb4) (by omega) (.string s) (.int .i64 (K2 : Int))) (below_a1 _ (.cells #[.string s, .int .i64 (K2 : Int)] 31))
              obtain ⟨m0, m1, m2, m3, m4, m5, m6⟩ := M5.c7
              obtain ⟨a0, a1, a2, a3, a4, a5, a6⟩ := A5.c7
              obtain ⟨f0, f1, f2, f3, f4, f5, f6⟩ := A5.f7
              have cu1 := C5.c2.2
              have HA5 := hideB2 A5
              have HM5 := hideB2 M5
              have HC5 := hideB2 C5
              have HO5 := hideB2 O5
              have HBW5 := hideB2 hbw5
              clear C4 M4 A4 A5 C5 M5 O5 hbw5 c0 c1
              go_wp2
              generalize hW5 : World.alloc _ (.cells #[.string s, .int .i64 (K2 : Int)] 31) = W5 at *
              clear hW5
              clear d1 d300 d1500 hn x0 x1 y0 y1 HT HA HCc HM HOw HBw HN21
              have hG0 : w.heap.size < GB := by omega
              go_big_region
              go_wp2
              try rw [Exit.noGoto_ret]
              have hA7 := hideB2 (HA5.out.set7 (.string a) (.string b) (.int .i64 n) (.string r) (.bool false) (.slice va acc.length vc) (.string ⟨#[]⟩)).drew
              have hO7 := hideB2 (((HO5.out.set7 hG0 (.string a) (.string b) (.int .i64 n) (.string r) (.bool false) (.slice va acc.length vc) (.string ⟨#[]⟩)).drew).buf (w0 := w) (Nat.le_of_lt hG0) (below_set7 HBW5.out (Nat.le_refl _) (.string a) (.string b) (.int .i64 n) (.string r) (.bool false) (.slice va acc.length vc) (.string ⟨#[]⟩)).drew)
              refine bodyPost_ret (results_cellTT rfl _ _ _ rfl hA7.out Tryd.underlying24 Tryd.infoMsg) rfl ⟨.slice va acc.length vc, ?_, hO7.out⟩
              subst hK
              rfl
            · rw [decide_eq_false he] at hn
              have hf20 := acc.length
              by_cases hful : acc.length = 20
              · obtain rfl : X = .error 431 := by rw [← HY.out, HN21.out, HFN.out he hful]; rfl
                have hfull : ((acc.length : Int) == 20) = true := by rw [hful]; rfl
                clear HFN HFE HFB HFO HY he hE hge hz2 hlen h0 htc
                generalize tlE s k + 2 = K2 at *
                generalize lineAt s k = L at *
                go_wp2_with fail
                refine (HT.out _).mono ?_
                rintro e w4 ⟨rfl, hb4⟩
                have C4 := HCc.out.later hb4
                have M4 := HM.out.later hb4
                have A4 := HA.out.later hb4
                have hlc := C4.lt
                obtain ⟨x0, x1⟩ := C4.c2
                have y0 := C4.free 0
                have y1 := C4.free 1
                have M5 := (M4.oth2 (g := G2) (by omega) (.string s) (.int .i64 (K2 : Int))).alloc (.cells #[.string s, .int .i64 (K2 : Int)] 31)
                have A5 := (A4.oth2 (g := G2) (by omega) (.string s) (.int .i64 (K2 : Int))).alloc (.cells #[.string s, .int .i64 (K2 : Int)] 31)
                have C5 := (C4.set2 (.string s) (.int .i64 (K2 : Int))).alloc (.cells #[.string s, .int .i64 (K2 : Int)] 31)
                have O5 := ((((HOw.out.later hb4).set (g := G2) (by omega) 0 (.string s)).set (g := G2) (by omega) 1 (.int .i64 (K2 : Int)))).alloc (.cells #[.string s, .int .i64 (K2 : Int)] 31)
                have hbw5 := below_then (below_set2 (g := G2) (below_then HBw.out hb4) (by omega) (.string s) (.int .i64 (K2 : Int))) (below_a1 _ (.cells #[.string s, .int .i64 (K2 : Int)] 31))
                obtain ⟨m0, m1, m2, m3, m4, m5, m6⟩ := M5.c7
                obtain ⟨a0, a1, a2, a3, a4, a5, a6⟩ := A5.c7
                obtain ⟨f0, f1, f2, f3, f4, f5, f6⟩ := A5.f7
                have cu1 := C5.c2.2
                have HA5 := hideB2 A5
                have HM5 := hideB2 M5
                have HC5 := hideB2 C5
                have HO5 := hideB2 O5
                have HBW5 := hideB2 hbw5
                clear C4 M4 A4 A5 C5 M5 O5 hbw5 c0 c1
                go_wp2
                refine bodyPost_ret (results_cellTT rfl _ _ _ rfl (HA5.out.set7 (.string ⟨#[]⟩) (.string ⟨#[]⟩) (.int .i64 0) (.string ⟨#[]⟩) (.bool false) (.slice none 0 0) (.string ⟨#[]⟩)) Tryd.underlying24 Tryd.infoMsg) rfl ⟨.slice none 0 0, ?_, ?_⟩
                · rfl
                · exact (BufF.start w).later (below_set7 HBW5.out (Nat.le_refl _) (.string ⟨#[]⟩) (.string ⟨#[]⟩) (.int .i64 0) (.string ⟨#[]⟩) (.bool false) (.slice none 0 0) (.string ⟨#[]⟩))
              · have hfull : ((acc.length : Int) == 20) = false := by simp; omega
                have HRF := hideB2 (fun W => sReadField_any (lineAt s k) W (by have := HLZ.out; unfold maxLen; omega))
                cases hro : readO (lineAt s k)
                · obtain rfl : X = .error 400 := by rw [← HY.out, HN21.out, HFB.out he hful hro]; rfl
                  rw [hro] at HRF
                  clear HFN HFE HFB HFO HY he hE hge hz2 hlen h0 htc hro
                  generalize readF (lineAt s k) = f at *
                  obtain ⟨d, t⟩ := f
                  simp only at HRF
                  generalize tlE s k + 2 = K2 at *
                  generalize lineAt s k = L at *
                  go_wp2_with fail
                  refine (HT.out _).mono ?_
                  rintro e w4 ⟨rfl, hb4⟩
                  have C4 := HCc.out.later hb4
                  have M4 := HM.out.later hb4
                  have A4 := HA.out.later hb4
                  have hlc := C4.lt
                  obtain ⟨x0, x1⟩ := C4.c2
                  have y0 := C4.free 0
                  have y1 := C4.free 1
                  have M5 := (M4.oth2 (g := G2) (by omega) (.string s) (.int .i64 (K2 : Int))).alloc (.cells #[.string s, .int .i64 (K2 : Int)] 31)
                  have A5 := (A4.oth2 (g := G2) (by omega) (.string s) (.int .i64 (K2 : Int))).alloc (.cells #[.string s, .int .i64 (K2 : Int)] 31)
                  have C5 := (C4.set2 (.string s) (.int .i64 (K2 : Int))).alloc (.cells #[.string s, .int .i64 (K2 : Int)] 31)
                  have O5 := ((((HOw.out.later hb4).set (g := G2) (by omega) 0 (.string s)).set (g := G2) (by omega) 1 (.int .i64 (K2 : Int)))).alloc (.cells #[.string s, .int .i64 (K2 : Int)] 31)
                  have hbw5 := below_then (below_set2 (g := G2) (below_then HBw.out hb4) (by omega) (.string s) (.int .i64 (K2 : Int))) (below_a1 _ (.cells #[.string s, .int .i64 (K2 : Int)] 31))
                  obtain ⟨m0, m1, m2, m3, m4, m5, m6⟩ := M5.c7
                  obtain ⟨a0, a1, a2, a3, a4, a5, a6⟩ := A5.c7
                  obtain ⟨f0, f1, f2, f3, f4, f5, f6⟩ := A5.f7
                  have cu1 := C5.c2.2
                  have HA5 := hideB2 A5
                  have HM5 := hideB2 M5
                  have HC5 := hideB2 C5
                  have HO5 := hideB2 O5
                  have HBW5 := hideB2 hbw5
                  clear C4 M4 A4 A5 C5 M5 O5 hbw5 c0 c1
                  go_wp2_with fail
                  refine (HRF.out _).mono ?_
                  rintro e w6 ⟨rfl, hb6⟩
                  have A6 := HA5.out.later hb6
                  have hlt6 := A6.lt
                  clear a0 a1 a2 a3 a4 a5 a6 f0 f1 f2 f3 f4 f5 f6
                  obtain ⟨a0, a1, a2, a3, a4, a5, a6⟩ := A6.c7
                  obtain ⟨f0, f1, f2, f3, f4, f5, f6⟩ := A6.f7
                  have HA7 := hideB2 ((A6.set7 (.string ⟨#[]⟩) (.string ⟨#[]⟩) (.int .i64 0) (.string ⟨#[]⟩) (.bool false) (.slice none 0 0) (.string ⟨#[]⟩)).alloc (.cells #[.string d, .string t] 37))
                  have HB7 := hideB2 (below_then (below_set7 (below_then HBW5.out hb6) (Nat.le_refl _) (.string ⟨#[]⟩) (.string ⟨#[]⟩) (.int .i64 0) (.string ⟨#[]⟩) (.bool false) (.slice none 0 0) (.string ⟨#[]⟩)) (below_a1 _ (.cells #[.string d, .string t] 37)))
                  clear A6
                  go_wp2
                  refine bodyPost_ret (results_cellTT rfl _ _ _ rfl HA7.out Tryd.underlying24 Tryd.infoMsg) rfl ⟨.slice none 0 0, ?_, ?_⟩
                  · rfl
                  · exact (BufF.start w).later HB7.out
                · have HY3 : Hid (contX (a, b, n, r) (lnR s (20 - acc.length) (tlE s k + 2) (acc ++ [readF (lineAt s k)])) = X) := by
                    show _ = _
                    rw [← HY.out, HN21.out, HFO.out he hful hro]
                  rw [hro] at HRF
                  clear HFN HFE HFB HFO HY he hge hz2 hlen h0 htc hro
                  generalize readF (lineAt s k) = f at *
                  obtain ⟨d, t⟩ := f
                  simp only at HRF
                  generalize tlE s k + 2 = K2 at *
                  generalize lineAt s k = L at *
                  go_wp2_with fail
                  refine (HT.out _).mono ?_
                  rintro e w4 ⟨rfl, hb4⟩
                  have C4 := HCc.out.later hb4
                  have M4 := HM.out.later hb4
                  have A4 := HA.out.later hb4
                  have hlc := C4.lt
                  obtain ⟨x0, x1⟩ := C4.c2
                  have y0 := C4.free 0
                  have y1 := C4.free 1
                  have M5 := (M4.oth2 (g := G2) (by omega) (.string s) (.int .i64 (K2 : Int))).alloc (.cells #[.string s, .int .i64 (K2 : Int)] 31)
                  have A5 := (A4.oth2 (g := G2) (by omega) (.string s) (.int .i64 (K2 : Int))).alloc (.cells #[.string s, .int .i64 (K2 : Int)] 31)
                  have C5 := (C4.set2 (.string s) (.int .i64 (K2 : Int))).alloc (.cells #[.string s, .int .i64 (K2 : Int)] 31)
                  have O5 := ((((HOw.out.later hb4).set (g := G2) (by omega) 0 (.string s)).set (g := G2) (by omega) 1 (.int .i64 (K2 : Int)))).alloc (.cells #[.string s, .int .i64 (K2 : Int)] 31)
                  have hbw5 := below_then (below_set2 (g := G2) (below_then HBw.out hb4) (by omega) (.string s) (.int .i64 (K2 : Int))) (below_a1 _ (.cells #[.string s, .int .i64 (K2 : Int)] 31))
                  obtain ⟨m0, m1, m2, m3, m4, m5, m6⟩ := M5.c7
                  obtain ⟨a0, a1, a2, a3, a4, a5, a6⟩ := A5.c7
                  obtain ⟨f0, f1, f2, f3, f4, f5, f6⟩ := A5.f7
                  have cu1 := C5.c2.2
                  have HA5 := hideB2 A5
                  have HM5 := hideB2 M5
                  have HC5 := hideB2 C5
                  have HO5 := hideB2 O5
                  have HBW5 := hideB2 hbw5
                  clear C4 M4 A4 A5 C5 M5 O5 hbw5 c0 c1
                  go_wp2_with fail
                  refine (HRF.out _).mono ?_
                  rintro e w6 ⟨rfl, hb6⟩
                  have hlg1 : G1 < GB := by omega
                  have M6 := HM5.out.later hb6
                  have hlt6 := M6.lt
                  have HW6 := hideB2 ((below_then HBW5.out hb6))
                  have HM6 := hideB2 M6
                  have HO6 := hideB2 ((HO5.out.later hb6).alloc (.cells #[.string d, .string t] 37))
                  have HA6 := hideB2 (HA5.out.later hb6)
                  have HC6 := hideB2 (HC5.out.later hb6)
                  clear a0 a1 a2 a3 a4 a5 a6 f0 f1 f2 f3 f4 f5 f6 m0 m1 m2 m3 m4 m5 m6
                  have m5 := M6.c7.2.2.2.2.2.1
                  clear M6
                  go_wp2_with (at_builtin; refine wp_fapp2 rfl (.tmp 75) (.tmp 77) rfl (.slice va acc.length vc) acc rfl HO6.out d t (w6.heap.size + 1) (by simp) rfl (by omega) ?_; intro v7 W7 hbuf7 hbl7 hkp7; obtain ⟨va7, vc7, rfl⟩ := hbuf7.form; have hm7 := hbl7.block G1 hlg1; have HM7 := hideB2 (show Blk W7 G1 #[.string a, .string b, .int .i64 n, .string r, .bool false, .slice va acc.length vc, .string ⟨#[]⟩] 24 from hm7.trans (HM6.out.alloc _)); have hcell7 := HM7.out.c7.2.2.2.2.2.1; have hfree7 := HM7.out.free 5; clear hkp7)
                  have hm9 : Blk (W7.setCell ⟨G1, 5, none⟩ (.slice va7 (acc.length + 1) vc7)) G1 #[.string a, .string b, .int .i64 n, .string r, .bool false, .slice va7 (acc.length + 1) vc7, .string ⟨#[]⟩] 24 := HM7.out.set 5 _
                  have ha7 : Blk W7 w.heap.size #[.string ⟨#[]⟩, .string ⟨#[]⟩, .int .i64 0, .string ⟨#[]⟩, .bool false, .slice none 0 0, .string ⟨#[]⟩] 24 := (hbl7.block w.heap.size (by omega)).trans (HA6.out.alloc _)
                  have hc7 : Blk W7 G2 #[.string s, .int .i64 (K2 : Int)] 31 := (hbl7.block G2 (by omega)).trans (HC6.out.alloc _)
                  have hw7 : Below w.heap.size w W7 := (HW6.out.alloc HW6.out.size (.cells #[.string d, .string t] 37)).trans (hbl7.mono (by omega))
                  rw [List.length_append, List.length_singleton] at hbuf7
                  refine ⟨⟨false, K2, a, b, n, r, acc ++ [(d, t)], .slice va7 (acc.length + 1) vc7, rfl, hE, by rw [List.length_append, List.length_singleton]; omega, ?_, (fun h => by cases h), ha7.other (by omega) 5 _, hc7.other (by omega) 5 _, hm9, hbuf7.set hlg1 5 _, hw7.setCell (p := ⟨G1, 5, none⟩) (show w.heap.size ≤ G1 by omega) _⟩, ?_⟩
                  · intro _
                    rw [List.length_append, List.length_singleton, show 21 - (acc.length + 1) = 20 - acc.length by omega]; exact HY3.out
                  · have e9 : fldN G1 (W7.setCell ⟨G1, 5, none⟩ (.slice va7 (acc.length + 1) vc7)) = acc.length + 1 := by unfold fldN; rw [hm9.c7.2.2.2.2.2.1]
                    have e5 : fldN G1 wr = acc.length := by unfold fldN; rw [HMR.out.c7.2.2.2.2.2.1]
                    rw [e9, e5]; simp only [fstN]; omega
          · obtain ⟨rfl, rfl, rfl, rfl, rfl, rfl, hv⟩ := hf.out rfl
            have HZ := hideB2 (HXG.out h0)
            clear hy hf HXK HXB HXG HFN HFE HFB HFO hn
            injection hv with hv1 hv2 hv3
            subst hv1 hv3
            cases answer
            · have HFL : Hid (∀ W, Calls Tryd.prog 11 #[.string (lineAt s 0)] W fun e w' => fsPost (flX false (lineAt s 0)) e ∧ Below W.heap.size W w') := fun W => l6first_any (lineAt s 0) W HLZ.out
              have HFNN : Hid (flX false (lineAt s 0) = none → X = .error 400) := fun h => HZ.out.trans (hdZ_none h)
              have HFSS : Hid (∀ x, flX false (lineAt s 0) = some x → contX x (lnR s 21 (tlE s 0 + 2) []) = X) := fun x h => (HZ.out.trans (hdZ_some h)).symm
              clear HZ hge hz2 hlen h0 htc HN21
              generalize flX false (lineAt s 0) = F at *
              generalize tlE s 0 + 2 = K2 at *
              generalize lineAt s 0 = L at *
              cases F with
              | none =>
                obtain rfl : X = .error 400 := HFNN.out rfl
                clear HFNN HFSS
                go_wp2_with fail
                refine (HT.out _).mono ?_
                rintro e w4 ⟨rfl, hb4⟩
                have C4 := HCc.out.later hb4
                have M4 := HM.out.later hb4
                have A4 := HA.out.later hb4
                have hlc := C4.lt
                obtain ⟨x0, x1⟩ := C4.c2
                have y0 := C4.free 0
                have y1 := C4.free 1
                have M5 := (M4.oth2 (g := G2) (by omega) (.string s) (.int .i64 (K2 : Int))).alloc (.cells #[.string s, .int .i64 (K2 : Int)] 31)
                have A5 := (A4.oth2 (g := G2) (by omega) (.string s) (.int .i64 (K2 : Int))).alloc (.cells #[.string s, .int .i64 (K2 : Int)] 31)
                have C5 := (C4.set2 (.string s) (.int .i64 (K2 : Int))).alloc (.cells #[.string s, .int .i64 (K2 : Int)] 31)
                have O5 := ((((HOw.out.later hb4).set (g := G2) (by omega) 0 (.string s)).set (g := G2) (by omega) 1 (.int .i64 (K2 : Int)))).alloc (.cells #[.string s, .int .i64 (K2 : Int)] 31)
                have hbw5 := below_then (below_set2 (g := G2) (below_then HBw.out hb4) (by omega) (.string s) (.int .i64 (K2 : Int))) (below_a1 _ (.cells #[.string s, .int .i64 (K2 : Int)] 31))
                obtain ⟨m0, m1, m2, m3, m4, m5, m6⟩ := M5.c7
                obtain ⟨a0, a1, a2, a3, a4, a5, a6⟩ := A5.c7
                obtain ⟨f0, f1, f2, f3, f4, f5, f6⟩ := A5.f7
                have cu1 := C5.c2.2
                have HA5 := hideB2 A5
                have HM5 := hideB2 M5
                have HC5 := hideB2 C5
                have HO5 := hideB2 O5
                have HBW5 := hideB2 hbw5
                clear C4 M4 A4 A5 C5 M5 O5 hbw5 c0 c1
                go_wp2_with fail
                refine (HFL.out _).mono ?_
                rintro e w6 ⟨⟨a, b, n, r, rfl, hx⟩, hb6⟩
                clear hx m0 m1 m2 m3 m4 m5 m6 a0 a1 a2 a3 a4 a5 a6 f0 f1 f2 f3 f4 f5 f6
                simp only [Option.isSome]
                have M6 := HM5.out.later hb6
                obtain ⟨m0, m1, m2, m3, m4, m5, m6⟩ := M6.c7
                obtain ⟨g0, g1, g2, g3, g4, g5, g6⟩ := M6.f7
                have A6 := (HA5.out.later hb6).oth7 (g := G1) (by omega) (.string a) (.string b) (.int .i64 n) (.string r) (.bool false) (.slice none 0 0) (.string ⟨#[]⟩)
                obtain ⟨a0, a1, a2, a3, a4, a5, a6⟩ := A6.c7
                obtain ⟨f0, f1, f2, f3, f4, f5, f6⟩ := A6.f7
                have HA7 := hideB2 (A6.set7 (.string ⟨#[]⟩) (.string ⟨#[]⟩) (.int .i64 0) (.string ⟨#[]⟩) (.bool false) (.slice none 0 0) (.string ⟨#[]⟩))
                have HB7 := hideB2 (below_set7 (below_set7 (below_then HBW5.out hb6) (show w.heap.size ≤ G1 by omega) (.string a) (.string b) (.int .i64 n) (.string r) (.bool false) (.slice none 0 0) (.string ⟨#[]⟩)) (Nat.le_refl _) (.string ⟨#[]⟩) (.string ⟨#[]⟩) (.int .i64 0) (.string ⟨#[]⟩) (.bool false) (.slice none 0 0) (.string ⟨#[]⟩))
                clear A6 M6
                go_wp2
                refine bodyPost_ret (results_cellTT rfl _ _ _ rfl HA7.out Tryd.underlying24 Tryd.infoMsg) rfl ⟨.slice none 0 0, ?_, ?_⟩
                · rfl
                · exact (BufF.start w).later HB7.out
              | some x =>
                have HCX := hideB2 (HFSS.out x rfl)
                clear HFNN HFSS
                go_wp2_with fail
                refine (HT.out _).mono ?_
                rintro e w4 ⟨rfl, hb4⟩
                have C4 := HCc.out.later hb4
                have M4 := HM.out.later hb4
                have A4 := HA.out.later hb4
                have hlc := C4.lt
                obtain ⟨x0, x1⟩ := C4.c2
                have y0 := C4.free 0
                have y1 := C4.free 1
                have M5 := (M4.oth2 (g := G2) (by omega) (.string s) (.int .i64 (K2 : Int))).alloc (.cells #[.string s, .int .i64 (K2 : Int)] 31)
                have A5 := (A4.oth2 (g := G2) (by omega) (.string s) (.int .i64 (K2 : Int))).alloc (.cells #[.string s, .int .i64 (K2 : Int)] 31)
                have C5 := (C4.set2 (.string s) (.int .i64 (K2 : Int))).alloc (.cells #[.string s, .int .i64 (K2 : Int)] 31)
                have O5 := ((((HOw.out.later hb4).set (g := G2) (by omega) 0 (.string s)).set (g := G2) (by omega) 1 (.int .i64 (K2 : Int)))).alloc (.cells #[.string s, .int .i64 (K2 : Int)] 31)
                have hbw5 := below_then (below_set2 (g := G2) (below_then HBw.out hb4) (by omega) (.string s) (.int .i64 (K2 : Int))) (below_a1 _ (.cells #[.string s, .int .i64 (K2 : Int)] 31))
                obtain ⟨m0, m1, m2, m3, m4, m5, m6⟩ := M5.c7
                obtain ⟨a0, a1, a2, a3, a4, a5, a6⟩ := A5.c7
                obtain ⟨f0, f1, f2, f3, f4, f5, f6⟩ := A5.f7
                have cu1 := C5.c2.2
                have HA5 := hideB2 A5
                have HM5 := hideB2 M5
                have HC5 := hideB2 C5
                have HO5 := hideB2 O5
                have HBW5 := hideB2 hbw5
                clear C4 M4 A4 A5 C5 M5 O5 hbw5 c0 c1
                go_wp2_with fail
                refine (HFL.out _).mono ?_
                rintro e w6 ⟨⟨a, b, n, r, rfl, hx⟩, hb6⟩
                obtain rfl := hx x rfl
                clear hx m0 m1 m2 m3 m4 m5 m6 a0 a1 a2 a3 a4 a5 a6 f0 f1 f2 f3 f4 f5 f6
                simp only [Option.isSome]
                have M6 := HM5.out.later hb6
                obtain ⟨m0, m1, m2, m3, m4, m5, m6⟩ := M6.c7
                obtain ⟨g0, g1, g2, g3, g4, g5, g6⟩ := M6.f7
                have HM7 := hideB2 (M6.set7 (.string a) (.string b) (.int .i64 n) (.string r) (.bool false) (.slice none 0 0) (.string ⟨#[]⟩))
                have HA7 := hideB2 ((HA5.out.later hb6).oth7 (g := G1) (by omega) (.string a) (.string b) (.int .i64 n) (.string r) (.bool false) (.slice none 0 0) (.string ⟨#[]⟩))
                have HC7 := hideB2 ((HC5.out.later hb6).oth7 (g := G1) (by omega) (.string a) (.string b) (.int .i64 n) (.string r) (.bool false) (.slice none 0 0) (.string ⟨#[]⟩))
                have HO7 := hideB2 ((HO5.out.later hb6).set7 (g := G1) (by omega) (.string a) (.string b) (.int .i64 n) (.string r) (.bool false) (.slice none 0 0) (.string ⟨#[]⟩))
                have HB7 := hideB2 (below_set7 (below_then HBW5.out hb6) (show w.heap.size ≤ G1 by omega) (.string a) (.string b) (.int .i64 n) (.string r) (.bool false) (.slice none 0 0) (.string ⟨#[]⟩))
                clear M6
                go_wp2
                refine ⟨⟨false, K2, a, b, n, r, [], .slice none 0 0, rfl, hE, Nat.zero_le _, (fun _ => HCX.out), (fun h => by cases h), HA7.out, HC7.out, HM7.out, HO7.out, HB7.out⟩, ?_⟩
                simp only [fstN]; omega
            · have HFL : Hid (∀ W, Calls Tryd.prog 10 #[.string (lineAt s 0)] W fun e w' => fsPost (flX true (lineAt s 0)) e ∧ Below W.heap.size W w') := fun W => l6status_any (lineAt s 0) W HLZ.out
              have HFNN : Hid (flX true (lineAt s 0) = none → X = .error 400) := fun h => HZ.out.trans (hdZ_none h)
              have HFSS : Hid (∀ x, flX true (lineAt s 0) = some x → contX x (lnR s 21 (tlE s 0 + 2) []) = X) := fun x h => (HZ.out.trans (hdZ_some h)).symm
              clear HZ hge hz2 hlen h0 htc HN21
              generalize flX true (lineAt s 0) = F at *
              generalize tlE s 0 + 2 = K2 at *
              generalize lineAt s 0 = L at *
              cases F with
              | none =>
                obtain rfl : X = .error 400 := HFNN.out rfl
                clear HFNN HFSS
                go_wp2_with fail
                refine (HT.out _).mono ?_
                rintro e w4 ⟨rfl, hb4⟩
                have C4 := HCc.out.later hb4
                have M4 := HM.out.later hb4
                have A4 := HA.out.later hb4
                have hlc := C4.lt
                obtain ⟨x0, x1⟩ := C4.c2
                have y0 := C4.free 0
                have y1 := C4.free 1
                have M5 := (M4.oth2 (g := G2) (by omega) (.string s) (.int .i64 (K2 : Int))).alloc (.cells #[.string s, .int .i64 (K2 : Int)] 31)
                have A5 := (A4.oth2 (g := G2) (by omega) (.string s) (.int .i64 (K2 : Int))).alloc (.cells #[.string s, .int .i64 (K2 : Int)] 31)
                have C5 := (C4.set2 (.string s) (.int .i64 (K2 : Int))).alloc (.cells #[.string s, .int .i64 (K2 : Int)] 31)
                have O5 := ((((HOw.out.later hb4).set (g := G2) (by omega) 0 (.string s)).set (g := G2) (by omega) 1 (.int .i64 (K2 : Int)))).alloc (.cells #[.string s, .int .i64 (K2 : Int)] 31)
                have hbw5 := below_then (below_set2 (g := G2) (below_then HBw.out hb4) (by omega) (.string s) (.int .i64 (K2 : Int))) (below_a1 _ (.cells #[.string s, .int .i64 (K2 : Int)] 31))
                obtain ⟨m0, m1, m2, m3, m4, m5, m6⟩ := M5.c7
                obtain ⟨a0, a1, a2, a3, a4, a5, a6⟩ := A5.c7
                obtain ⟨f0, f1, f2, f3, f4, f5, f6⟩ := A5.f7
                have cu1 := C5.c2.2
                have HA5 := hideB2 A5
                have HM5 := hideB2 M5
                have HC5 := hideB2 C5
                have HO5 := hideB2 O5
                have HBW5 := hideB2 hbw5
                clear C4 M4 A4 A5 C5 M5 O5 hbw5 c0 c1
                go_wp2_with fail
                refine (HFL.out _).mono ?_
                rintro e w6 ⟨⟨a, b, n, r, rfl, hx⟩, hb6⟩
                clear hx m0 m1 m2 m3 m4 m5 m6 a0 a1 a2 a3 a4 a5 a6 f0 f1 f2 f3 f4 f5 f6
                simp only [Option.isSome]
                have M6 := HM5.out.later hb6
                obtain ⟨m0, m1, m2, m3, m4, m5, m6⟩ := M6.c7
                obtain ⟨g0, g1, g2, g3, g4, g5, g6⟩ := M6.f7
                have A6 := (HA5.out.later hb6).oth7 (g := G1) (by omega) (.string a) (.string b) (.int .i64 n) (.string r) (.bool false) (.slice none 0 0) (.string ⟨#[]⟩)
                obtain ⟨a0, a1, a2, a3, a4, a5, a6⟩ := A6.c7
                obtain ⟨f0, f1, f2, f3, f4, f5, f6⟩ := A6.f7
                have HA7 := hideB2 (A6.set7 (.string ⟨#[]⟩) (.string ⟨#[]⟩) (.int .i64 0) (.string ⟨#[]⟩) (.bool false) (.slice none 0 0) (.string ⟨#[]⟩))
                have HB7 := hideB2 (below_set7 (below_set7 (below_then HBW5.out hb6) (show w.heap.size ≤ G1 by omega) (.string a) (.string b) (.int .i64 n) (.string r) (.bool false) (.slice none 0 0) (.string ⟨#[]⟩)) (Nat.le_refl _) (.string ⟨#[]⟩) (.string ⟨#[]⟩) (.int .i64 0) (.string ⟨#[]⟩) (.bool false) (.slice none 0 0) (.string ⟨#[]⟩))
                clear A6 M6
                go_wp2
                refine bodyPost_ret (results_cellTT rfl _ _ _ rfl HA7.out Tryd.underlying24 Tryd.infoMsg) rfl ⟨.slice none 0 0, ?_, ?_⟩
                · rfl
                · exact (BufF.start w).later HB7.out
              | some x =>
                have HCX := hideB2 (HFSS.out x rfl)
                clear HFNN HFSS
                go_wp2_with fail
                refine (HT.out _).mono ?_
                rintro e w4 ⟨rfl, hb4⟩
                have C4 := HCc.out.later hb4
                have M4 := HM.out.later hb4
                have A4 := HA.out.later hb4
                have hlc := C4.lt
                obtain ⟨x0, x1⟩ := C4.c2
                have y0 := C4.free 0
                have y1 := C4.free 1
                have M5 := (M4.oth2 (g := G2) (by omega) (.string s) (.int .i64 (K2 : Int))).alloc (.cells #[.string s, .int .i64 (K2 : Int)] 31)
                have A5 := (A4.oth2 (g := G2) (by omega) (.string s) (.int .i64 (K2 : Int))).alloc (.cells #[.string s, .int .i64 (K2 : Int)] 31)
                have C5 := (C4.set2 (.string s) (.int .i64 (K2 : Int))).alloc (.cells #[.string s, .int .i64 (K2 : Int)] 31)
                have O5 := ((((HOw.out.later hb4).set (g := G2) (by omega) 0 (.string s)).set (g := G2) (by omega) 1 (.int .i64 (K2 : Int)))).alloc (.cells #[.string s, .int .i64 (K2 : Int)] 31)
                have hbw5 := below_then (below_set2 (g := G2) (below_then HBw.out hb4) (by omega) (.string s) (.int .i64 (K2 : Int))) (below_a1 _ (.cells #[.string s, .int .i64 (K2 : Int)] 31))
                obtain ⟨m0, m1, m2, m3, m4, m5, m6⟩ := M5.c7
                obtain ⟨a0, a1, a2, a3, a4, a5, a6⟩ := A5.c7
                obtain ⟨f0, f1, f2, f3, f4, f5, f6⟩ := A5.f7
                have cu1 := C5.c2.2
                have HA5 := hideB2 A5
                have HM5 := hideB2 M5
                have HC5 := hideB2 C5
                have HO5 := hideB2 O5
                have HBW5 := hideB2 hbw5
                clear C4 M4 A4 A5 C5 M5 O5 hbw5 c0 c1
                go_wp2_with fail
                refine (HFL.out _).mono ?_
                rintro e w6 ⟨⟨a, b, n, r, rfl, hx⟩, hb6⟩
                obtain rfl := hx x rfl
                clear hx m0 m1 m2 m3 m4 m5 m6 a0 a1 a2 a3 a4 a5 a6 f0 f1 f2 f3 f4 f5 f6
                simp only [Option.isSome]
                have M6 := HM5.out.later hb6
                obtain ⟨m0, m1, m2, m3, m4, m5, m6⟩ := M6.c7
                obtain ⟨g0, g1, g2, g3, g4, g5, g6⟩ := M6.f7
                have HM7 := hideB2 (M6.set7 (.string a) (.string b) (.int .i64 n) (.string r) (.bool false) (.slice none 0 0) (.string ⟨#[]⟩))
                have HA7 := hideB2 ((HA5.out.later hb6).oth7 (g := G1) (by omega) (.string a) (.string b) (.int .i64 n) (.string r) (.bool false) (.slice none 0 0) (.string ⟨#[]⟩))
                have HC7 := hideB2 ((HC5.out.later hb6).oth7 (g := G1) (by omega) (.string a) (.string b) (.int .i64 n) (.string r) (.bool false) (.slice none 0 0) (.string ⟨#[]⟩))
                have HO7 := hideB2 ((HO5.out.later hb6).set7 (g := G1) (by omega) (.string a) (.string b) (.int .i64 n) (.string r) (.bool false) (.slice none 0 0) (.string ⟨#[]⟩))
                have HB7 := hideB2 (below_set7 (below_then HBW5.out hb6) (show w.heap.size ≤ G1 by omega) (.string a) (.string b) (.int .i64 n) (.string r) (.bool false) (.slice none 0 0) (.string ⟨#[]⟩))
                clear M6
                go_wp2
                refine ⟨⟨false, K2, a, b, n, r, [], .slice none 0 0, rfl, hE, Nat.zero_le _, (fun _ => HCX.out), (fun h => by cases h), HA7.out, HC7.out, HM7.out, HO7.out, HB7.out⟩, ?_⟩
                simp only [fstN]; omega
        · obtain ⟨h4, h5⟩ := hlC_431 htc h0
          obtain rfl : X = .error 431 := by rw [HXK.out h0, h4]
          clear hy hf HXK HXB HXG hn
          by_cases h3 : 300 < tlE s k - k
          · have h3i : (300 : Int) < ((lineAt s k).size : Int) := by omega
            clear h5 hE hge hz2 h0 htc h3 h4
            generalize tlE s k + 2 = K2 at *
            generalize lineAt s k = L at *
            go_wp2_with fail
            refine (HT.out _).mono ?_
            rintro e w4 ⟨rfl, hb4⟩
            have C4 := HCc.out.later hb4
            have M4 := HM.out.later hb4
            have A4 := HA.out.later hb4
            have hlc := C4.lt
            obtain ⟨x0, x1⟩ := C4.c2
            have y0 := C4.free 0
            have y1 := C4.free 1
            have M5 := (M4.oth2 (g := G2) (by omega) (.string s) (.int .i64 (K2 : Int))).alloc (.cells #[.string s, .int .i64 (K2 : Int)] 31)
            have A5 := (A4.oth2 (g := G2) (by omega) (.string s) (.int .i64 (K2 : Int))).alloc (.cells #[.string s, .int .i64 (K2 : Int)] 31)
            have C5 := (C4.set2 (.string s) (.int .i64 (K2 : Int))).alloc (.cells #[.string s, .int .i64 (K2 : Int)] 31)
            have O5 := ((((HOw.out.later hb4).set (g := G2) (by omega) 0 (.string s)).set (g := G2) (by omega) 1 (.int .i64 (K2 : Int)))).alloc (.cells #[.string s, .int .i64 (K2 : Int)] 31)
            have hbw5 := below_then (below_set2 (g := G2) (below_then HBw.out hb4) (by omega) (.string s) (.int .i64 (K2 : Int))) (below_a1 _ (.cells #[.string s, .int .i64 (K2 : Int)] 31))
            obtain ⟨m0, m1, m2, m3, m4, m5, m6⟩ := M5.c7
            obtain ⟨a0, a1, a2, a3, a4, a5, a6⟩ := A5.c7
            obtain ⟨f0, f1, f2, f3, f4, f5, f6⟩ := A5.f7
            have cu1 := C5.c2.2
            have HA5 := hideB2 A5
            have HM5 := hideB2 M5
            have HC5 := hideB2 C5
            have HO5 := hideB2 O5
            have HBW5 := hideB2 hbw5
            clear C4 M4 A4 A5 C5 M5 O5 hbw5 c0 c1
            go_wp2
            refine bodyPost_ret (results_cellTT rfl _ _ _ rfl (HA5.out.set7 (.string ⟨#[]⟩) (.string ⟨#[]⟩) (.int .i64 0) (.string ⟨#[]⟩) (.bool false) (.slice none 0 0) (.string ⟨#[]⟩)) Tryd.underlying24 Tryd.infoMsg) rfl ⟨.slice none 0 0, ?_, ?_⟩
            · rfl
            · exact (BufF.start w).later (below_set7 HBW5.out (Nat.le_refl _) (.string ⟨#[]⟩) (.string ⟨#[]⟩) (.int .i64 0) (.string ⟨#[]⟩) (.bool false) (.slice none 0 0) (.string ⟨#[]⟩))
          · have d300 : decide ((300 : Int) < ((lineAt s k).size : Int)) = false := decide_eq_false (by omega)
            have h15 : (1500 : Int) < ((tlE s k + 2 : Nat) : Int) := by omega
            clear h5 hE hge hz2 h0 htc h3 h4
            generalize tlE s k + 2 = K2 at *
            generalize lineAt s k = L at *
            go_wp2_with fail
            refine (HT.out _).mono ?_
            rintro e w4 ⟨rfl, hb4⟩
            have C4 := HCc.out.later hb4
            have M4 := HM.out.later hb4
            have A4 := HA.out.later hb4
            have hlc := C4.lt
            obtain ⟨x0, x1⟩ := C4.c2
            have y0 := C4.free 0
            have y1 := C4.free 1
            have M5 := (M4.oth2 (g := G2) (by omega) (.string s) (.int .i64 (K2 : Int))).alloc (.cells #[.string s, .int .i64 (K2 : Int)] 31)
            have A5 := (A4.oth2 (g := G2) (by omega) (.string s) (.int .i64 (K2 : Int))).alloc (.cells #[.string s, .int .i64 (K2 : Int)] 31)
            have C5 := (C4.set2 (.string s) (.int .i64 (K2 : Int))).alloc (.cells #[.string s, .int .i64 (K2 : Int)] 31)
            have O5 := ((((HOw.out.later hb4).set (g := G2) (by omega) 0 (.string s)).set (g := G2) (by omega) 1 (.int .i64 (K2 : Int)))).alloc (.cells #[.string s, .int .i64 (K2 : Int)] 31)
            have hbw5 := below_then (below_set2 (g := G2) (below_then HBw.out hb4) (by omega) (.string s) (.int .i64 (K2 : Int))) (below_a1 _ (.cells #[.string s, .int .i64 (K2 : Int)] 31))
            obtain ⟨m0, m1, m2, m3, m4, m5, m6⟩ := M5.c7
            obtain ⟨a0, a1, a2, a3, a4, a5, a6⟩ := A5.c7
            obtain ⟨f0, f1, f2, f3, f4, f5, f6⟩ := A5.f7
            have cu1 := C5.c2.2
            have HA5 := hideB2 A5
            have HM5 := hideB2 M5
            have HC5 := hideB2 C5
            have HO5 := hideB2 O5
            have HBW5 := hideB2 hbw5
            clear C4 M4 A4 A5 C5 M5 O5 hbw5 c0 c1
            go_wp2
            refine bodyPost_ret (results_cellTT rfl _ _ _ rfl (HA5.out.set7 (.string ⟨#[]⟩) (.string ⟨#[]⟩) (.int .i64 0) (.string ⟨#[]⟩) (.bool false) (.slice none 0 0) (.string ⟨#[]⟩)) Tryd.underlying24 Tryd.infoMsg) rfl ⟨.slice none 0 0, ?_, ?_⟩
            · rfl
            · exact (BufF.start w).later (below_set7 HBW5.out (Nat.le_refl _) (.string ⟨#[]⟩) (.string ⟨#[]⟩) (.int .i64 0) (.string ⟨#[]⟩) (.bool false) (.slice none 0 0) (.string ⟨#[]⟩))
      · obtain ⟨c, hc0, hcv⟩ := tlV_not htc
        have HT := hideB2 (fun W => sTakeLine_ok s k W HSM.out hk)
        rw [hcv] at HT
        obtain rfl : X = .error 400 := by rw [HXK.out (by rw [hlC_bad htc]; decide), hlC_bad htc]
        clear hy hf HXK HXB HXG htc hcv
        unfold curZ at HT
        go_wp2_with fail
        refine (HT.out _).mono ?_
        rintro e w4 ⟨rfl, hb4⟩
        have hal := below_a1 w4 (.cells #[.string ⟨#[]⟩, .int .i64 0] 31)
        have A4 := (HA.out.later hb4).alloc (.cells #[.string ⟨#[]⟩, .int .i64 0] 31)
        have hbw5 := below_then (below_then HBw.out hb4) hal
        obtain ⟨a0, a1, a2, a3, a4, a5, a6⟩ := A4.c7
        obtain ⟨f0, f1, f2, f3, f4, f5, f6⟩ := A4.f7
        have HA5 := hideB2 A4
        have HBW5 := hideB2 hbw5
        go_wp2
        refine bodyPost_ret (results_cellTT rfl _ _ _ rfl (HA5.out.set7 (.string ⟨#[]⟩) (.string ⟨#[]⟩) (.int .i64 0) (.string ⟨#[]⟩) (.bool false) (.slice none 0 0) (.string ⟨#[]⟩)) Tryd.underlying24 Tryd.infoMsg) rfl ⟨.slice none 0 0, ?_, ?_⟩
        · rfl
        · exact (BufF.start w).later (below_set7 HBW5.out (Nat.le_refl _) (.string ⟨#[]⟩) (.string ⟨#[]⟩) (.int .i64 0) (.string ⟨#[]⟩) (.bool false) (.slice none 0 0) (.string ⟨#[]⟩))
end Go.Proofs.YtodandipfjamnaaDoor
namespace Go.Proofs.YtodandipfjamnaaDoor
set_option linter.unusedVariables false
set_option linter.unusedSimpArgs false
open Go.ChangeShapes Go.WideShapes Go.ChangeAt Go.RowKit
open Go.ChangeMaps (open_string shut_string)
theorem Tryd.own : ownKnob Tryd.prog.godebug = none := by kernel_rfl
theorem Tryd.laidOut : laidOutB Tryd.prog = true := by kernel_rfl
/-- What the walk is told of a slice of integers that came in: it is nil; or it leads to a row of 'cap' cells, the numbers 'zs' (the first 'len' are its elements, the rest its spare room), each fitting its kind. -/
def IsRow (k : IntKind) (w : World) (a : Option Addr) (len cap : Nat) (zs : List Int) : Prop :=
  (a = none ∧ len = 0 ∧ cap = 0 ∧ zs = []) ∨
  ∃ x, a = some x ∧ len ≤ cap ∧ cap ≤ maxLen ∧ zs.length = cap ∧ (∀ i, i < zs.length → w.cell? (x.add i) = some (.int k (zs.getD i 0))) ∧ ∀ n ∈ zs, (Lit.int k n).wf = true

end Go.Proofs.YtodandipfjamnaaDoor
namespace Go.Proofs.YtodandipfjamnaaDoor
set_option linter.unusedVariables false
set_option linter.unusedSimpArgs false
open Go.ChangeShapes Go.WideShapes Go.ChangeAt Go.RowKit

/-- A block's cells, laid anew. -/
def laidRow (cs : Array Value) : Obj → Obj
  | .cells _ t frozen => .cells cs t frozen
  | o => o
theorem laid_mem {P : Program} {w : World} : ∀ {l : List (String × DataW Unit)} {ps : List MemPlace}, DataW.LaidVars P w l ps → ∀ (n : String) (d : DataW Unit), (n, d) ∈ l →
    ∃ g t cs fuel p, P.globalNamed n = some g ∧ (P.globals[g]?).map (·.type) = some t ∧ w.var? P n = some cs ∧ DataW.trod (fun _ => ()) P w 0 (fun _ => true) false fuel t cs.toList = some (d, p)
  | [], _, _, n, d, hm => by simp at hm
  | (n0, d0) :: r, ps, h, n, d, hm => by
    obtain ⟨g, t, cs, fuel, p, q, h1, h2, h3, h4, h5, _⟩ := h
    rcases List.mem_cons.1 hm with e | e
    · cases e
      exact ⟨g, t, cs, fuel, p, h1, h2, h3, h4⟩
    · exact laid_mem h5 n d e
end Go.Proofs.YtodandipfjamnaaDoor
