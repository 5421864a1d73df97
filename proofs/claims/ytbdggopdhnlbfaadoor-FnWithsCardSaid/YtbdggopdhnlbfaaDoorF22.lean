/-
  The drawing functions of chapter 5: a field, bent or not.
-/
import Derived.Test.YtbdggopdhnlbfaaDoorF20
namespace Go.Proofs.YtbdggopdhnlbfaaDoor
set_option linter.unusedVariables false
set_option linter.unusedSimpArgs false
open Go.RowKit
/-- A field in a variable of the call's own, block g, while numbers are drawn; r is its result's block. -/
structure DF (p r g : Nat) (w wr : World) (d s : ByteArray) : Prop where
  blk : Blk wr g #[.string d, .string s] 49
  res : Blk wr r #[.string ⟨#[]⟩, .string ⟨#[]⟩] 49
  st : Drw wr p
  bel : Below w.heap.size w wr
  rge : w.heap.size ≤ r
  pge : w.heap.size ≤ p
  ne1 : r ≠ p
  ne2 : p < g
  ne3 : r < g
theorem DF.draw {p r g : Nat} {w wr w' : World} {d s : ByteArray} (h : DF p r g w wr d s) (k : Kp p wr w') (hd : Drw w' p) : DF p r g w w' d s :=
  ⟨blk_kp h.blk k (by have := h.ne2; omega), blk_kp h.res k h.ne1, hd, h.bel.trans (k.below h.pge (Nat.le_of_lt h.st.lt)), h.rge, h.pge, h.ne1, h.ne2, h.ne3⟩
theorem DF.set0 {p r g : Nat} {w wr : World} {d s : ByteArray} (h : DF p r g w wr d s) (x : ByteArray) : DF p r g w (wr.setCell ⟨g, 0, none⟩ (.string x)) x s :=
  ⟨h.blk.set 0 _, h.res.other (by have := h.ne3; omega) 0 _, h.st.setNew h.ne2 0 _, h.bel.setCell (p := ⟨g, 0, none⟩) (by have := h.ne3; have := h.rge; simp; omega) _, h.rge, h.pge, h.ne1, h.ne2, h.ne3⟩
theorem DF.set1 {p r g : Nat} {w wr : World} {d s : ByteArray} (h : DF p r g w wr d s) (x : ByteArray) : DF p r g w (wr.setCell ⟨g, 1, none⟩ (.string x)) d x :=
  ⟨h.blk.set 1 _, h.res.other (by have := h.ne3; omega) 1 _, h.st.setNew h.ne2 1 _, h.bel.setCell (p := ⟨g, 1, none⟩) (by have := h.ne3; have := h.rge; simp; omega) _, h.rge, h.pge, h.ne1, h.ne2, h.ne3⟩
set_option maxRecDepth 100000 in
set_option maxHeartbeats 8000000 in
theorem DrawFieldOk_any (a : Option Addr) (len cap : Nat) (w : World) (hc : Code w a len) :
    Calls Tryd.prog 66 #[.slice a len cap] w fun e w' => (∃ d s : ByteArray, d.size ≤ 300 ∧ s.size ≤ 300 ∧ e = .returned (.agg #[.string d, .string s])) ∧ Below w.heap.size w w' := by
  have R0 := Blk.new w #[.string ⟨#[]⟩, .string ⟨#[]⟩] 49
  have ba := below_a1 w (.cells #[.string ⟨#[]⟩, .string ⟨#[]⟩] 49)
  have hc1 := hc.later ba
  have hsz : (w.alloc (.cells #[.string ⟨#[]⟩, .string ⟨#[]⟩] 49)).heap.size = w.heap.size + 1 := by simp
  clear hc
  go_enter Tryd.func66, Tryd.ntmps66
  go_wp2_with fail
  generalize w.alloc (.cells #[.string ⟨#[]⟩, .string ⟨#[]⟩] 49) = W at *
  have HSZ := hideB2 hsz
  clear hsz
  refine (l1New_any a len cap _ hc1.row hc1.max).mono ?_
  rintro e w1 ⟨rfl, hb1, hd1⟩
  generalize hp : W.heap.size = p at *
  go_wp2_with fail
  refine (l5field_any p _ hd1).mono ?_
  rintro e w2 ⟨⟨d, s, hds, hss, rfl⟩, hk2, hd2⟩
  have hs1 := hd1.lt
  have hs2 := hk2.size
  have ba2 := below_a1 w2 (.cells #[.string d, .string s] 49)
  have V2 : DF p w.heap.size w2.heap.size w (w2.alloc (.cells #[.string d, .string s] 49)) d s := by
    have hsz := HSZ.out
    have hbw := ba.trans (hb1.mono (by omega))
    have hbw2 := hbw.trans (hk2.below (B := w.heap.size) (by omega) (by omega))
    exact ⟨Blk.new w2 _ _, (blk_kp (R0.later (by rw [hp]; exact hb1)) hk2 (by omega)).later ba2, hd2.kept ba2, hbw2.trans (ba2.mono hbw2.size), Nat.le_refl _, by omega, by omega, by omega, by omega⟩
  clear R0 hk2 hd1 hd2 hb1 ba hc1 ba2
  go_wp2_with fail
  generalize w2.alloc (.cells #[.string d, .string s] 49) = W2 at *
  generalize w2.heap.size = g at *
  refine (l1Below_any p 6 _ V2.st (by omega)).mono ?_
  rintro e w3 ⟨⟨n, hn, _, _, rfl⟩, hk3, hd3⟩
  have hn6 : n < 6 := by have := hn (by omega); omega
  have V3 := V2.draw hk3 hd3
  clear V2 hk3 hd3 hn hs1 hs2 HSZ hp
  have hc : n = 0 ∨ n = 1 ∨ n = 2 ∨ n = 3 ∨ (4 ≤ n ∧ n < 6) := by omega
  rcases hc with rfl | rfl | rfl | rfl | ⟨h4, h5⟩
  · obtain ⟨q0, q1⟩ := V3.blk.c2
    go_wp2_with fail
    refine (l1bend_any p d _ V3.st (by omega)).mono ?_
    rintro e w4 ⟨⟨t, ht, rfl⟩, hk4, hd4⟩
    have V4 := V3.draw hk4 hd4
    have V5 := V4.set0 t
    clear q0 q1
    obtain ⟨q0, q1⟩ := V4.blk.c2
    have f0 := V4.blk.free 0
    obtain ⟨r0, r1⟩ := V4.res.c2
    have e0 := V4.res.free 0
    have e1 := V4.res.free 1
    have n3 := V4.ne3
    have HV := hideB2 V5
    clear V3 V4 V5 hk4 hd4
    go_wp2
    refine bodyPost_ret (results_cellS rfl _ _ _ rfl (HV.out.res.set2 _ _) Tryd.underlying49 Tryd.infoFd) rfl ⟨⟨_, _, by omega, by omega, rfl⟩, below_set2 HV.out.bel (Nat.le_refl _) _ _⟩
  · obtain ⟨q0, q1⟩ := V3.blk.c2
    go_wp2_with fail
    refine (l1bend_any p s _ V3.st (by omega)).mono ?_
    rintro e w4 ⟨⟨t, ht, rfl⟩, hk4, hd4⟩
    have V4 := V3.draw hk4 hd4
    have V5 := V4.set1 t
    clear q0 q1
    obtain ⟨q0, q1⟩ := V4.blk.c2
    have f0 := V4.blk.free 1
    obtain ⟨r0, r1⟩ := V4.res.c2
    have e0 := V4.res.free 0
    have e1 := V4.res.free 1
    have n3 := V4.ne3
    have HV := hideB2 V5
    clear V3 V4 V5 hk4 hd4
    go_wp2
    refine bodyPost_ret (results_cellS rfl _ _ _ rfl (HV.out.res.set2 _ _) Tryd.underlying49 Tryd.infoFd) rfl ⟨⟨_, _, by omega, by omega, rfl⟩, below_set2 HV.out.bel (Nat.le_refl _) _ _⟩
  · go_wp2_with fail
    refine (l1Below_any p 2 _ V3.st (by omega)).mono ?_
    rintro e w4 ⟨⟨m, hm, _, _, rfl⟩, hk4, hd4⟩
    have hm2 : m < 2 := by have := hm (by omega); omega
    have V4 := V3.draw hk4 hd4
    have e1 : IntKind.i64.wrap (40 + (m : Int)) = ((m + 40 : Nat) : Int) := by rw [IntKind.wrap_i64]; omega
    clear V3 hk4 hd4 hm
    go_wp2_with fail
    have e2 : (40 : Int) + (m : Int) = ((m + 40 : Nat) : Int) := by omega
    first | rw [e2] | skip
    refine (l1of_any p (m + 40) _ _ V4.st (by omega) (by decide) (by decide)).mono ?_
    rintro e w5 ⟨⟨l5, hl5, _, rfl⟩, hk5, hd5⟩
    have hs5 := str_size (n := 41) (l := l5) (by omega)
    generalize ByteArray.mk l5.toArray = d5 at *
    have V5 := V4.draw hk5 hd5
    obtain ⟨q0, q1⟩ := V5.blk.c2
    have f0 := V5.blk.free 0
    have V6 := V5.set0 d5
    have HV6 := hideB2 V6
    clear V4 V5 V6 hk5 hd5 hl5 e1 e2
    go_wp2_with fail
    have V7 := HV6.out
    generalize World.setCell _ _ _ = W6 at *
    refine (l1Below_any p 2 _ V7.st (by omega)).mono ?_
    rintro e w8 ⟨⟨u, hu, _, _, rfl⟩, hk8, hd8⟩
    have hu2 : u < 2 := by have := hu (by omega); omega
    have V8 := V7.draw hk8 hd8
    have e1 : IntKind.i64.wrap (190 - (u : Int)) = ((190 - u : Nat) : Int) := by rw [IntKind.wrap_i64]; omega
    clear V7 HV6 hk8 hd8 hu q0 q1 f0
    go_wp2_with fail
    have e2 : (190 : Int) - (u : Int) = ((190 - u : Nat) : Int) := by omega
    first | rw [e2] | skip
    refine (l1of_any p (190 - u) _ _ V8.st (by omega) (by decide) (by decide)).mono ?_
    rintro e w9 ⟨⟨l9, hl9, _, rfl⟩, hk9, hd9⟩
    have hs9 := str_size (n := 190) (l := l9) (by omega)
    generalize ByteArray.mk l9.toArray = s9 at *
    have V9 := V8.draw hk9 hd9
    obtain ⟨q0, q1⟩ := V9.blk.c2
    have f0 := V9.blk.free 1
    obtain ⟨r0, r1⟩ := V9.res.c2
    have z0 := V9.res.free 0
    have z1 := V9.res.free 1
    have n3 := V9.ne3
    have HV := hideB2 (V9.set1 s9)
    clear V8 V9 hk9 hd9 hl9 e1 e2
    go_wp2
    refine bodyPost_ret (results_cellS rfl _ _ _ rfl (HV.out.res.set2 _ _) Tryd.underlying49 Tryd.infoFd) rfl ⟨⟨_, _, by omega, by omega, rfl⟩, below_set2 HV.out.bel (Nat.le_refl _) _ _⟩
  · go_wp2_with fail
    refine (l1Below_any p 2 _ V3.st (by omega)).mono ?_
    rintro e w8 ⟨⟨u, hu, _, _, rfl⟩, hk8, hd8⟩
    have hu2 : u < 2 := by have := hu (by omega); omega
    have V8 := V3.draw hk8 hd8
    have e1 : IntKind.i64.wrap (190 + (u : Int)) = ((u + 190 : Nat) : Int) := by rw [IntKind.wrap_i64]; omega
    clear V3 hk8 hd8 hu
    go_wp2_with fail
    have e2 : (190 : Int) + (u : Int) = ((u + 190 : Nat) : Int) := by omega
    first | rw [e2] | skip
    refine (l1of_any p (u + 190) _ _ V8.st (by omega) (by decide) (by decide)).mono ?_
    rintro e w9 ⟨⟨l9, hl9, _, rfl⟩, hk9, hd9⟩
    have hs9 := str_size (n := 191) (l := l9) (by omega)
    generalize ByteArray.mk l9.toArray = s9 at *
    have V9 := V8.draw hk9 hd9
    obtain ⟨q0, q1⟩ := V9.blk.c2
    have f0 := V9.blk.free 1
    obtain ⟨r0, r1⟩ := V9.res.c2
    have z0 := V9.res.free 0
    have z1 := V9.res.free 1
    have n3 := V9.ne3
    have HV := hideB2 (V9.set1 s9)
    clear V8 V9 hk9 hd9 hl9 e1 e2
    go_wp2
    refine bodyPost_ret (results_cellS rfl _ _ _ rfl (HV.out.res.set2 _ _) Tryd.underlying49 Tryd.infoFd) rfl ⟨⟨_, _, by omega, by omega, rfl⟩, below_set2 HV.out.bel (Nat.le_refl _) _ _⟩
  · have g0 : ((n : Int) == 0) = false := by rw [beq_eq_false_iff_ne]; omega
    have g1 : ((n : Int) == 1) = false := by rw [beq_eq_false_iff_ne]; omega
    have g2 : ((n : Int) == 2) = false := by rw [beq_eq_false_iff_ne]; omega
    have g3 : ((n : Int) == 3) = false := by rw [beq_eq_false_iff_ne]; omega
    obtain ⟨q0, q1⟩ := V3.blk.c2
    obtain ⟨r0, r1⟩ := V3.res.c2
    have z0 := V3.res.free 0
    have z1 := V3.res.free 1
    have n3 := V3.ne3
    have HV := hideB2 V3
    clear V3
    go_wp2
    refine bodyPost_ret (results_cellS rfl _ _ _ rfl (HV.out.res.set2 _ _) Tryd.underlying49 Tryd.infoFd) rfl ⟨⟨_, _, by omega, by omega, rfl⟩, below_set2 HV.out.bel (Nat.le_refl _) _ _⟩
set_option maxHeartbeats 1000000 in
theorem DrawFieldText_any (a : Option Addr) (len cap : Nat) (w : World) (hc : Code w a len) :
    Calls Tryd.prog 30 #[.slice a len cap] w fun e w' => (∃ d s : ByteArray, d.size ≤ 300 ∧ s.size ≤ 300 ∧ e = .returned (.agg #[.string d, .string s])) ∧ Below w.heap.size w w' := by
  have R0 := Blk.new w #[.string ⟨#[]⟩, .string ⟨#[]⟩] 49
  have ba := below_a1 w (.cells #[.string ⟨#[]⟩, .string ⟨#[]⟩] 49)
  have hc1 := hc.later ba
  clear hc
  go_enter Tryd.func30, Tryd.ntmps30
  go_wp2_with fail
  generalize w.alloc (.cells #[.string ⟨#[]⟩, .string ⟨#[]⟩] 49) = W at *
  refine (DrawFieldOk_any a len cap _ hc1).mono ?_
  rintro e w1 ⟨⟨d, s, hd, hs, rfl⟩, hb1⟩
  have R1 := R0.later hb1
  obtain ⟨r0, r1⟩ := R1.c2
  have z0 := R1.free 0
  have z1 := R1.free 1
  have HR := hideB2 R1
  have HB := hideB2 (below_then ba hb1)
  clear R0 R1 ba hb1 hc1
  go_wp2
  refine bodyPost_ret (results_cellS rfl _ _ _ rfl (HR.out.set2 _ _) Tryd.underlying49 Tryd.infoFd) rfl ⟨⟨_, _, hd, hs, rfl⟩, below_set2 HB.out (Nat.le_refl _) _ _⟩
end Go.Proofs.YtbdggopdhnlbfaaDoor
