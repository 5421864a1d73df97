/-
  The drawing functions of chapter 4: a store and a number; disks.
-/
import Derived.Test.YtknpolmenfdheaaDoorG22
namespace Go.Proofs.YtknpolmenfdheaaDoor
set_option linter.unusedVariables false
set_option linter.unusedSimpArgs false
open Go.RowKit
set_option maxHeartbeats 2000000 in
theorem DrawCut_any (a : Option Addr) (len cap : Nat) (w : World) (hc : Code w a len) :
    Calls Tryd.prog 29 #[.slice a len cap] w fun e w' => (∃ v l c n, e = .returned (.tuple #[v, .int .i64 n]) ∧ Bent w w' v l c ∧ -2 ≤ n ∧ n ≤ 60100) ∧ Below w.heap.size w w' := by
  have R0 := Blk.new w #[.slice none 0 0, .int .i64 0] 25
  have ba := below_a1 w (.cells #[.slice none 0 0, .int .i64 0] 25)
  have hc1 := hc.later ba
  clear hc
  go_enter Tryd.func29, Tryd.ntmps29
  go_wp2_with fail
  generalize hW : w.alloc (.cells #[.slice none 0 0, .int .i64 0] 25) = W at *
  refine (l1New_any a len cap _ hc1.row hc1.max).mono ?_
  rintro e w1 ⟨rfl, hb1, hd1⟩
  have hWs : W.heap.size = w.heap.size + 1 := by rw [← hW]; simp
  have HWS := hideB2 hWs
  clear hW hWs
  generalize hp : W.heap.size = p at *
  go_wp2_with fail
  refine (l4bent_any _ _ hd1).mono ?_
  rintro e w2 ⟨⟨v, l, c, rfl, hB⟩, hk2, hd2⟩
  obtain ⟨oa, cp, rfl, hsl, h1, h2, h3, h4, hown⟩ := hB.form
  have hs1 := hd1.lt
  have R2 := (R0.later (by rw [hp]; exact hb1)).kp hk2 (by have := HWS.out; omega)
  have hbw := ba.trans ((hb1.mono (by have := ba.size; omega)).trans (hk2.below (B := w.heap.size) (by have := HWS.out; omega) (by omega)))
  have ba2 := below_a1 w2 (.cells #[.slice oa l.length cp, .int .i64 c] 25)
  have S2 := Blk.new w2 #[.slice oa l.length cp, .int .i64 c] 25
  have R3 := R2.later ba2
  have hsl3 := hsl.later ba2
  have hd3 := hd2.kept ba2
  have hbw3 := hbw.trans (ba2.mono hbw.size)
  have hs2 := hk2.size
  clear R0 R2 hbw hk2 hd1 hd2 hb1 hsl ba hc1 hB ba2
  go_wp2
  generalize w2.alloc (.cells #[.slice oa l.length cp, .int .i64 c] 25) = W2 at *
  generalize hq2 : w2.heap.size = q at *
  have S4 := S2.drew
  have R4 := R3.drew
  have hsl4 := hsl3.later (Below.refl _ W2).drew
  have hd4 := hd3.drew
  have hbw4 := hbw3.drew
  have hlN : (lastN l : Int) ≤ 60041 := by
    unfold lastN lastG
    by_cases h0 : 0 < l.length
    · have := totG_at l (l.length - 1) (by omega); omega
    · have : l = [] := List.length_eq_zero_iff.1 (by omega)
      subst this; decide
  have hlN0 : (0 : Int) ≤ (lastN l : Int) := by omega
  have HL := hideB2 (fun (W : World) (h : SlG W (.slice oa l.length cp) l) => l4last_any _ l c W h (by omega) (by omega))
  generalize (lastN l : Int) = N at *
  obtain ⟨p0, p1⟩ := S4.c2
  have hwN : IntKind.i64.wrap (N + 3) = N + 3 := by rw [IntKind.wrap_i64]; omega
  clear S2 R3 hsl3 hd3 hbw3
  have hpq : p < q := by omega
  go_region_with (first
    | (go_at_call 45; refine (HL.out _ hsl4).mono ?_; rintro e w5 ⟨rfl, hb5⟩; have S5 := S4.later hb5; have R5 := R4.later hb5; have hsl5 := hsl4.later hb5; have hd5 := hd4.kept hb5; have hbw5 := hbw4.trans (hb5.mono hbw4.size); obtain ⟨u0, u1⟩ := S5.c2)
    | (go_at_call 34; refine (l1Below_any p (N + 3) _ hd5 (by omega)).mono ?_; rintro e w6 ⟨⟨z, hz, _, _, rfl⟩, hk6, hd6⟩; have hz2 : (z : Int) < N + 3 := hz (by omega); have hwz : IntKind.i64.wrap ((z : Int) - 1) = (z : Int) - 1 := (by rw [IntKind.wrap_i64]; omega); have S6 := S5.kp hk6 (by omega); have R6 := R5.kp hk6 (by have := HWS.out; omega); have hsl6 := hsl5.kp hk6 (fun g h => by have := hown g h; omega); have hbw6 := hbw5.trans (hk6.below (B := w.heap.size) (by have := HWS.out; omega) (by have := hd5.lt; omega)); obtain ⟨s0, s1⟩ := S6.c2; obtain ⟨r0, r1⟩ := R6.c2; have f0 := R6.free 0; have f1 := R6.free 1))
  all_goals
    have HR := hideB2 R6
    have HBW := hideB2 hbw6
    have HS := hideB2 hsl6
    clear p0 p1 u0 u1 s0 s1 S4 S5 S6 R4 R5 R6 hsl4 hsl5 hsl6 hbw4 hbw5 hbw6 hd4 hd5 hd6 hk6 hb5 HL
    go_wp2
    refine bodyPost_ret (results_cellT rfl _ _ _ rfl (HR.out.set2 _ _) Tryd.underlying25 Tryd.infoStore) rfl ⟨⟨_, l, c, (z : Int) - 1, rfl, ⟨_, rfl, ?_, h1, h2, h3, h4, fun g e => ?_⟩, by omega, by omega⟩, below_set2 HBW.out (Nat.le_refl _) _ _⟩
    · rcases HS.out with hn | ⟨b, cp', e, hr⟩
      · exact .inl hn
      · refine .inr ⟨b, cp', e, hr.oth2 ?_ _ _⟩
        have := hown b (by rw [e]; rfl)
        have := HWS.out
        omega
    · have := hown g e
      have := HWS.out
      omega
set_option maxHeartbeats 1000000 in
theorem lwithin_any (s t : ByteArray) (w : World) (hs : s.size ≤ 1099511627776) (ht : t.size ≤ 1099511627776) (h : s.size ≤ t.size) (he : t.extract 0 s.size = s) :
    Calls Tryd.prog 21 #[.string s, .string t] w fun e w' => e = .returned (.bool true) ∧ w' = w := by
  have hst : (s.size : Int) ≤ (t.size : Int) := by omega
  have hd : ((t.extract 0 s.size).toList == s.toList) = true := by rw [he]; simp
  clear he
  go_enter Tryd.func21, Tryd.ntmps21
  go_wp2
  go_ret
  exact ⟨rfl, rfl⟩
set_option maxRecDepth 10000 in
set_option maxHeartbeats 4000000 in
theorem disks_any (w : World) (hE : EG w) : Calls Tryd.prog 10 #[] w fun e w' => e = .returned (.bool true) ∧ Below w.heap.size w w' := by
  have HA1 := hideB2 (fun (v : Value) (W : World) (h0 : EG W) (h : SlG W v [sg0]) => Append_any v [sg0] 5 ⟨#[97, 98, 99]⟩ W h0 h (by simp) (by rw [totG_sg0]; omega) (by decide))
  have hm : abcL.length ≤ 1048576 := by decide
  have ht : totG abcL ≤ 1099511627776 := by decide +kernel
  have HA2 := hideB2 (fun (v : Value) (W : World) (h0 : EG W) (h : SlG W v abcL) => Append_any v abcL 5 ⟨#[100, 101, 102]⟩ W h0 h hm ht (by decide))
  have HAB := hideB2 (fun (v : Value) (W : World) (h : SlG W v abcL) => AllBytes_any v abcL 5 W h hm ht)
  have HLO := hideB2 (fun (v : Value) (W : World) (h : SlG W v abcL) => Loose_any v abcL 5 W h hm ht)
  have HCR := hideB2 (fun (v : Value) (W : World) (h : SlG W v abcL) => Crash_any v abcL 5 1 W h hm ht)
  have HAC := hideB2 (fun (v : Value) (W : World) (h : SlG W v [(⟨#[97]⟩, 1)]) => AllBytes_any v [(⟨#[97]⟩, 1)] 5 W h (by decide) (by decide +kernel))
  rw [abc1] at HA1
  rw [abc2] at HA2
  rw [abc3] at HAB
  rw [abc4] at HLO
  rw [abc5] at HCR
  rw [abc6] at HAC
  clear hm ht
  go_enter Tryd.func10, Tryd.ntmps10
  go_wp2_with fail
  refine (StoreNew_yes 5 _ (by omega) (by omega)).mono ?_
  rintro e w1 ⟨b1, rfl, _, hr1, hb1⟩
  have ba1 := below_a1 w1 (.cells #[.slice (some ⟨b1, 0, none⟩) 1 1, .int .i64 5] 25)
  have hr1' := hr1.keep ba1
  have hbw1 := below_then hb1 ba1
  go_wp2_with fail
  refine (HA1.out _ _ (hE.later hbw1) (hr1'.sl rfl 1)).mono ?_
  rintro e w2 ⟨r, rfl, ho, hb2⟩
  obtain ⟨g2, cap2, rfl, hg2, hgb2⟩ := ho
  have ba2 := below_a1 w2 (.cells #[.slice (some ⟨g2, 0, none⟩) abcL.length cap2, .int .i64 5] 25)
  have S2 := Blk.new w2 #[.slice (some ⟨g2, 0, none⟩) abcL.length cap2, .int .i64 5] 25
  have G2 := hgb2.later ba2
  have hbw2 := below_then (below_then hbw1 hb2) ba2
  go_wp2_with fail
  generalize w2.alloc (.cells #[.slice (some ⟨g2, 0, none⟩) abcL.length cap2, .int .i64 5] 25) = W2 at *
  refine (HA2.out _ _ (hE.later hbw2) (G2.sl rfl)).mono ?_
  rintro e w3 ⟨r, rfl, ho, hb3⟩
  have er : r = noStore := ho
  subst er
  unfold noStore
  have ba3 := below_a1 w3 (.cells #[.slice none 0 0, .int .i64 0] 25)
  have S3 := (S2.later hb3).later ba3
  have G3 := (G2.later hb3).later ba3
  have hbw3 := below_then (below_then hbw2 hb3) ba3
  obtain ⟨p0, p1⟩ := S3.c2
  go_wp2_with fail
  generalize w3.alloc (.cells #[.slice none 0 0, .int .i64 0] 25) = W3 at *
  refine (HAB.out _ _ (G3.sl rfl)).mono ?_
  rintro e w4 ⟨rfl, hb4⟩
  have S4 := S3.later hb4
  have G4 := G3.later hb4
  have hbw4 := below_then hbw3 hb4
  clear p0 p1
  obtain ⟨p0, p1⟩ := S4.c2
  go_wp2_with fail
  refine (HLO.out _ _ (G4.sl rfl)).mono ?_
  rintro e w5 ⟨rfl, hb5⟩
  have S5 := S4.later hb5
  have G5 := G4.later hb5
  have hbw5 := below_then hbw4 hb5
  clear p0 p1
  obtain ⟨p0, p1⟩ := S5.c2
  go_wp2_with fail
  refine (HCR.out _ _ (G5.sl rfl)).mono ?_
  rintro e w6 ⟨r, rfl, ho, hb6⟩
  obtain ⟨g6, cap6, rfl, hg6, hgb6⟩ := ho
  have hbw6 := below_then hbw5 hb6
  clear p0 p1
  go_wp2_with fail
  refine (HAC.out _ _ (hgb6.sl rfl)).mono ?_
  rintro e w7 ⟨rfl, hb7⟩
  have hbw7 := below_then hbw6 hb7
  go_wp2
  go_ret
  exact ⟨rfl, hbw7⟩
end Go.Proofs.YtknpolmenfdheaaDoor
