/-
  Chapter 10: an exchange's answer is read; the program's side. · Chapter 10: an exchange is read: what is handed back. · Chapter 10: an exchange is read; the program's side. · Chapter 10: what is asked of an exchange; both sides. · The walks over chapter 2: spec.CivilOk. · The walks over chapter 2: spec's SecondsOf, CivilOf, Weekday. · Chapter 10: an exchange is read; the specification's side. · Chapter 10: what is asked of an exchange; both sides.
-/
import Derived.Test.YthdgeepedofleaaGreatDoorJ13
import Derived.Test.YthdgeepedofleaaGreatDoorJ9
import Derived.Test.YthdgeepedofleaaGreatDoorJ10
import Derived.Test.YthdgeepedofleaaGreatDoorJ4
import Derived.Test.YthdgeepedofleaaGreatDoorJ8
import Derived.Deep.RegionHeld
namespace Go.Proofs.YthdgeepedofleaaGreatDoor
set_option linter.unusedVariables false
set_option linter.unusedSimpArgs false
open Go.RowKit
theorem eqB_head {s : ByteArray} : eqB s headW = (s.toList == [72, 69, 65, 68]) := by unfold eqB; rw [ByteArray.toList_eq headW]; rfl
set_option maxRecDepth 100000 in
set_option maxHeartbeats 4000000 in
theorem readAnswer_any (si ak wh : Int) (ur rq an mth : ByteArray) (w : World) (z : an.size ≤ 1048576) (htab : Tab10 w) :
    Calls Tryz.prog 76 #[.agg #[.int .i64 si, .int .i64 ak, .int .i64 wh, .string ur, .string rq, .string an], .string mth] w fun e w' => ∃ v, e = .returned (.tuple #[mgV (raX ⟨si, ak, wh, ur, rq, an⟩ mth).1 v, .bool (raX ⟨si, ak, wh, ur, rq, an⟩ mth).2]) ∧ BufF w w' v (raX ⟨si, ak, wh, ur, rq, an⟩ mth).1.fs := by
  have hb0 := below_a1 w (.cells #[.int .i64 si, .int .i64 ak, .int .i64 wh, .string ur, .string rq, .string an] 24)
  have E0 := Blk.new w #[.int .i64 si, .int .i64 ak, .int .i64 wh, .string ur, .string rq, .string an] 24
  generalize hW0 : w.alloc (.cells #[.int .i64 si, .int .i64 ak, .int .i64 wh, .string ur, .string rq, .string an] 24) = W0 at *
  have n0 : W0.heap.size = w.heap.size + 1 := by rw [← hW0]; simp
  have A1 : Blk (W0.alloc (.cells #[.string ⟨#[]⟩, .string ⟨#[]⟩, .int .i64 0, .string ⟨#[]⟩, .bool false, .slice none 0 0, .string ⟨#[]⟩] 50)) (w.heap.size + 1) #[.string ⟨#[]⟩, .string ⟨#[]⟩, .int .i64 0, .string ⟨#[]⟩, .bool false, .slice none 0 0, .string ⟨#[]⟩] 50 := by rw [← n0]; exact Blk.new W0 _ _
  have E1 := E0.alloc (.cells #[.string ⟨#[]⟩, .string ⟨#[]⟩, .int .i64 0, .string ⟨#[]⟩, .bool false, .slice none 0 0, .string ⟨#[]⟩] 50)
  have hb1 := below_then hb0 (below_a1 W0 (.cells #[.string ⟨#[]⟩, .string ⟨#[]⟩, .int .i64 0, .string ⟨#[]⟩, .bool false, .slice none 0 0, .string ⟨#[]⟩] 50))
  have n1 : (W0.alloc (.cells #[.string ⟨#[]⟩, .string ⟨#[]⟩, .int .i64 0, .string ⟨#[]⟩, .bool false, .slice none 0 0, .string ⟨#[]⟩] 50)).heap.size = w.heap.size + 1 + 1 := by simp [n0]
  have HT0 := hideB2 htab
  have HT := hideB2 (tab_later htab hb1)
  clear htab
  have HR := hideB2 (fun W h => ReadAnswer_any an (eqB mth headW) W z h)
  have HBD := hideB2 (fun g (h : msX true (eqB mth headW) an = .ok g) => msX_bds h)
  have hmh := eqB_head (s := mth)
  have HE1 := hideB2 E1
  have HA1 := hideB2 A1
  have HB1 := hideB2 hb1
  have HN1 := hideB2 n1
  obtain ⟨p0, p1, p2, p3, p4, p5⟩ := E1.c6
  have hlt1 := A1.lt
  subst hW0
  clear E0 A1 E1 hb0 hb1 n0 n1
  rw [hmh] at HR HBD
  cases hm : msX true (eqB mth headW) an with
  | error c =>
    rw [ra_err (x := ⟨si, ak, wh, ur, rq, an⟩) (me := mth) hm]
    have hcb : (c == 0) = false := by simpa using msX_err hm
    rw [hmh] at hm
    rw [hm] at HR
    clear hm HBD hmh
    go_enter Tryz.func76, Tryz.ntmps76
    go_wp2_with fail
    refine (HR.out _ HT.out).mono ?_
    rintro e w2 ⟨v, rfl, hbuf⟩
    obtain ⟨va, vc, rfl⟩ := hbuf.form
    have hb2 := hbuf.below
    have O2 : OwF (w.heap.size + 1 + 1) w2 (.slice va 0 vc) [] := by
      have h := (show OwF _ w2 (.slice va 0 vc) [] from ⟨hbuf.own, hb2.size⟩)
      rw [HN1.out] at h
      exact h
    simp only [exM, mgV, mg0, exC, List.length_nil]
    have hal := below_a1 w2 (.cells #[.string ⟨#[]⟩, .string ⟨#[]⟩, .int .i64 0, .string ⟨#[]⟩, .bool false, .slice va 0 vc, .string ⟨#[]⟩] 50)
    have M3 := Blk.new w2 #[.string ⟨#[]⟩, .string ⟨#[]⟩, .int .i64 0, .string ⟨#[]⟩, .bool false, .slice va 0 vc, .string ⟨#[]⟩] 50
    have A3 := (HA1.out.later hb2).alloc (.cells #[.string ⟨#[]⟩, .string ⟨#[]⟩, .int .i64 0, .string ⟨#[]⟩, .bool false, .slice va 0 vc, .string ⟨#[]⟩] 50)
    have O3 := O2.alloc (.cells #[.string ⟨#[]⟩, .string ⟨#[]⟩, .int .i64 0, .string ⟨#[]⟩, .bool false, .slice va 0 vc, .string ⟨#[]⟩] 50)
    have hB3 := below_then (below_then HB1.out hb2) hal
    have hltA := (HA1.out.later hb2).lt
    obtain ⟨m0, m1, m2, m3, m4, m5, m6⟩ := M3.c7
    obtain ⟨a0, a1, a2, a3, a4, a5, a6⟩ := A3.c7
    obtain ⟨f0, f1, f2, f3, f4, f5, f6⟩ := A3.f7
    have hA5 := hideB2 (A3.set7 (.string ⟨#[]⟩) (.string ⟨#[]⟩) (.int .i64 0) (.string ⟨#[]⟩) (.bool false) (.slice va 0 vc) (.string ⟨#[]⟩)).drew
    have hO5 := hideB2 (((O3.set7 (g := w.heap.size + 1) (by omega) (.string ⟨#[]⟩) (.string ⟨#[]⟩) (.int .i64 0) (.string ⟨#[]⟩) (.bool false) (.slice va 0 vc) (.string ⟨#[]⟩)).drew).buf (w0 := w) (by omega) (below_set7 hB3 (show w.heap.size ≤ w.heap.size + 1 by omega) (.string ⟨#[]⟩) (.string ⟨#[]⟩) (.int .i64 0) (.string ⟨#[]⟩) (.bool false) (.slice va 0 vc) (.string ⟨#[]⟩)).drew)
    clear p0 p1 p2 p3 p4 p5 hbuf O2 hb2 hal M3 A3 O3 hB3 HR HE1 HA1 HB1 HN1 HT HT0
    go_wp2
    generalize hW : w2.alloc (.cells #[.string ⟨#[]⟩, .string ⟨#[]⟩, .int .i64 0, .string ⟨#[]⟩, .bool false, .slice va 0 vc, .string ⟨#[]⟩] 50) = W3 at *
    clear hW
    go_big_region
    go_wp2
    refine bodyPost_ret (results_cellT rfl _ _ _ rfl hA5.out Tryz.underlying50 Tryz.infoMsg) rfl ⟨.slice va 0 vc, ?_, hO5.out⟩
    rfl
  | ok q =>
    rw [ra_ok (x := ⟨si, ak, wh, ur, rq, an⟩) (me := mth) hm]
    rw [hmh] at hm
    rw [hm] at HR
    have hbd := HBD.out q hm
    obtain ⟨me, ta, st, re, ba, fs, bo⟩ := q
    have HWM := hideB2 (fun va vc W h h' => WriteMsg_any me ta re bo st ba va fs.length vc fs W h rfl (Nat.le_trans hbd.fs (by decide)) (Nat.le_trans hbd.tot (by decide)) (Nat.le_trans hbd.me (by decide)) (Nat.le_trans hbd.ta (by decide)) (Nat.le_trans hbd.re (by decide)) (Nat.le_trans hbd.bo (by decide)) h')
    clear hm HBD hbd hmh
    have hq' : ((wmsgB ⟨me, ta, st, re, ba, fs, bo⟩).toList == an.toList) = eqB (wmsgB ⟨me, ta, st, re, ba, fs, bo⟩) an := rfl
    generalize eqB (wmsgB ⟨me, ta, st, re, ba, fs, bo⟩) an = Q at *
    generalize wmsgB ⟨me, ta, st, re, ba, fs, bo⟩ = C at *
    simp only [exM, mgV, exC] at HR ⊢
    go_enter Tryz.func76, Tryz.ntmps76
    go_wp2_with fail
    refine (HR.out _ HT.out).mono ?_
    rintro e w2 ⟨v, rfl, hbuf⟩
    obtain ⟨va, vc, rfl⟩ := hbuf.form
    have hb2 := hbuf.below
    have O2 : OwF (w.heap.size + 1 + 1) w2 (.slice va fs.length vc) fs := by
      have h := (show OwF _ w2 (.slice va fs.length vc) fs from ⟨hbuf.own, hb2.size⟩)
      rw [HN1.out] at h
      exact h
    have hal := below_a1 w2 (.cells #[.string me, .string ta, .int .i64 st, .string re, .bool ba, .slice va fs.length vc, .string bo] 50)
    have M3 := Blk.new w2 #[.string me, .string ta, .int .i64 st, .string re, .bool ba, .slice va fs.length vc, .string bo] 50
    have A3 := (HA1.out.later hb2).alloc (.cells #[.string me, .string ta, .int .i64 st, .string re, .bool ba, .slice va fs.length vc, .string bo] 50)
    have E3 := (HE1.out.later hb2).alloc (.cells #[.string me, .string ta, .int .i64 st, .string re, .bool ba, .slice va fs.length vc, .string bo] 50)
    have O3 := O2.alloc (.cells #[.string me, .string ta, .int .i64 st, .string re, .bool ba, .slice va fs.length vc, .string bo] 50)
    have hB3 := below_then (below_then HB1.out hb2) hal
    have hltA := (HA1.out.later hb2).lt
    have hltE := (HE1.out.later hb2).lt
    clear p0 p1 p2 p3 p4 p5 hbuf O2
    go_wp2
    generalize hW : w2.alloc (.cells #[.string me, .string ta, .int .i64 st, .string re, .bool ba, .slice va fs.length vc, .string bo] 50) = W3 at *
    clear hW hal hb2
    generalize w2.heap.size = G at *
    obtain ⟨m0, m1, m2, m3, m4, m5, m6⟩ := M3.c7
    obtain ⟨a0, a1, a2, a3, a4, a5, a6⟩ := A3.c7
    obtain ⟨f0, f1, f2, f3, f4, f5, f6⟩ := A3.f7
    have e5 := E3.c6.2.2.2.2.2
    have HM3 := hideB2 M3
    have HA3 := hideB2 A3
    have HE3 := hideB2 E3
    have HO3 := hideB2 O3
    have HB3 := hideB2 hB3
    have hne1 : w.heap.size + 1 ≠ G := by omega
    have hne2 : G ≠ w.heap.size + 1 := by omega
    have hne3 : w.heap.size + 1 ≠ w.heap.size := by omega
    have hne4 : w.heap.size ≠ w.heap.size + 1 := by omega
    have HTL := hideB2 (tab_later HT0.out hB3)
    clear M3 A3 E3 O3 hB3 HR HE1 HA1 HB1 HN1 HT
    go_region_held (fun w' => w'.cell? ⟨G, 0, none⟩ = some (.string me) ∧ w'.cell? ⟨G, 1, none⟩ = some (.string ta) ∧ w'.cell? ⟨G, 2, none⟩ = some (.int .i64 st) ∧ w'.cell? ⟨G, 3, none⟩ = some (.string re) ∧ w'.cell? ⟨G, 4, none⟩ = some (.bool ba) ∧ w'.cell? ⟨G, 5, none⟩ = some (.slice va fs.length vc) ∧ w'.cell? ⟨G, 6, none⟩ = some (.string bo) ∧ w'.cell? ⟨w.heap.size, 5, none⟩ = some (.string an)) (go_keep) ((go_at_call 105; first | (refine (HWM.out va vc _ HO3.out.drew.sl (tab_later HT0.out HB3.out.drew)).mono ?_; rintro e w4 ⟨rfl, hb4⟩; obtain ⟨m0', m1', m2', m3', m4', m5', m6'⟩ := (HM3.out.drew.later hb4).c7; obtain ⟨a0', a1', a2', a3', a4', a5', a6'⟩ := (HA3.out.drew.later hb4).c7; obtain ⟨f0', f1', f2', f3', f4', f5', f6'⟩ := (HA3.out.drew.later hb4).f7; have e5' := (HE3.out.drew.later hb4).c6.2.2.2.2.2) | (refine (HWM.out va vc _ (HO3.out.drew.set7 (g := w.heap.size + 1) (by omega) (.string me) (.string ta) (.int .i64 st) (.string re) (.bool ba) (.slice va fs.length vc) (.string bo)).sl (tab_later HT0.out (below_set7 HB3.out.drew (show w.heap.size ≤ w.heap.size + 1 by omega) (.string me) (.string ta) (.int .i64 st) (.string re) (.bool ba) (.slice va fs.length vc) (.string bo)))).mono ?_; rintro e w4 ⟨rfl, hb4⟩; obtain ⟨m0', m1', m2', m3', m4', m5', m6'⟩ := ((HM3.out.drew.oth7 (g := w.heap.size + 1) (by omega) (.string me) (.string ta) (.int .i64 st) (.string re) (.bool ba) (.slice va fs.length vc) (.string bo)).later hb4).c7; have e5' := ((HE3.out.drew.oth7 (g := w.heap.size + 1) (by omega) (.string me) (.string ta) (.int .i64 st) (.string re) (.bool ba) (.slice va fs.length vc) (.string bo)).later hb4).c6.2.2.2.2.2)))
    all_goals
      go_wp2_with fail
      first
        | (refine bodyPost_ret (results_cellT rfl _ _ _ rfl ((HA3.out.drew.later hb4).set7 (.string me) (.string ta) (.int .i64 st) (.string re) (.bool ba) (.slice va fs.length vc) (.string bo)) Tryz.underlying50 Tryz.infoMsg) rfl ⟨.slice va fs.length vc, ?_, ((HO3.out.drew.later hb4).set7 (g := w.heap.size + 1) (by omega) (.string me) (.string ta) (.int .i64 st) (.string re) (.bool ba) (.slice va fs.length vc) (.string bo)).buf (w0 := w) (by omega) (below_set7 (below_then HB3.out.drew hb4) (show w.heap.size ≤ w.heap.size + 1 by omega) (.string me) (.string ta) (.int .i64 st) (.string re) (.bool ba) (.slice va fs.length vc) (.string bo))⟩; rfl)
        | (refine bodyPost_ret (results_cellT rfl _ _ _ rfl ((HA3.out.drew.set7 (.string me) (.string ta) (.int .i64 st) (.string re) (.bool ba) (.slice va fs.length vc) (.string bo)).later hb4) Tryz.underlying50 Tryz.infoMsg) rfl ⟨.slice va fs.length vc, ?_, ((HO3.out.drew.set7 (g := w.heap.size + 1) (by omega) (.string me) (.string ta) (.int .i64 st) (.string re) (.bool ba) (.slice va fs.length vc) (.string bo)).later hb4).buf (w0 := w) (by omega) (below_then (below_set7 HB3.out.drew (show w.heap.size ≤ w.heap.size + 1 by omega) (.string me) (.string ta) (.int .i64 st) (.string re) (.bool ba) (.slice va fs.length vc) (.string bo)) hb4)⟩; rfl)
end Go.Proofs.YthdgeepedofleaaGreatDoor
namespace Go.Proofs.YthdgeepedofleaaGreatDoor
set_option linter.unusedVariables false
set_option linter.unusedSimpArgs false
open Go.RowKit
theorem Blk.set14 {w : World} {g : Nat} {c0 c1 c2 c3 c4 c5 c6 c7 c8 c9 c10 c11 c12 c13 : Value} {t : TypeId} (H : Blk w g #[c0, c1, c2, c3, c4, c5, c6, c7, c8, c9, c10, c11, c12, c13] t) (x0 x1 x2 x3 x4 x5 x6 x7 x8 x9 x10 x11 x12 x13 : Value) : Blk ((((((((((((((w.setCell ⟨g, 0, none⟩ x0).setCell ⟨g, 1, none⟩ x1).setCell ⟨g, 2, none⟩ x2).setCell ⟨g, 3, none⟩ x3).setCell ⟨g, 4, none⟩ x4).setCell ⟨g, 5, none⟩ x5).setCell ⟨g, 6, none⟩ x6).setCell ⟨g, 7, none⟩ x7).setCell ⟨g, 8, none⟩ x8).setCell ⟨g, 9, none⟩ x9).setCell ⟨g, 10, none⟩ x10).setCell ⟨g, 11, none⟩ x11).setCell ⟨g, 12, none⟩ x12).setCell ⟨g, 13, none⟩ x13) g #[x0, x1, x2, x3, x4, x5, x6, x7, x8, x9, x10, x11, x12, x13] t := by
  have h0 : Blk (w.setCell ⟨g, 0, none⟩ x0) g #[x0, c1, c2, c3, c4, c5, c6, c7, c8, c9, c10, c11, c12, c13] t := H.set 0 x0
  have h1 : Blk ((w.setCell ⟨g, 0, none⟩ x0).setCell ⟨g, 1, none⟩ x1) g #[x0, x1, c2, c3, c4, c5, c6, c7, c8, c9, c10, c11, c12, c13] t := h0.set 1 x1
  have h2 : Blk (((w.setCell ⟨g, 0, none⟩ x0).setCell ⟨g, 1, none⟩ x1).setCell ⟨g, 2, none⟩ x2) g #[x0, x1, x2, c3, c4, c5, c6, c7, c8, c9, c10, c11, c12, c13] t := h1.set 2 x2
  have h3 : Blk ((((w.setCell ⟨g, 0, none⟩ x0).setCell ⟨g, 1, none⟩ x1).setCell ⟨g, 2, none⟩ x2).setCell ⟨g, 3, none⟩ x3) g #[x0, x1, x2, x3, c4, c5, c6, c7, c8, c9, c10, c11, c12, c13] t := h2.set 3 x3
  have h4 : Blk (((((w.setCell ⟨g, 0, none⟩ x0).setCell ⟨g, 1, none⟩ x1).setCell ⟨g, 2, none⟩ x2).setCell ⟨g, 3, none⟩ x3).setCell ⟨g, 4, none⟩ x4) g #[x0, x1, x2, x3, x4, c5, c6, c7, c8, c9, c10, c11, c12, c13] t := h3.set 4 x4
  have h5 : Blk ((((((w.setCell ⟨g, 0, none⟩ x0).setCell ⟨g, 1, none⟩ x1).setCell ⟨g, 2, none⟩ x2).setCell ⟨g, 3, none⟩ x3).setCell ⟨g, 4, none⟩ x4).setCell ⟨g, 5, none⟩ x5) g #[x0, x1, x2, x3, x4, x5, c6, c7, c8, c9, c10, c11, c12, c13] t := h4.set 5 x5
  have h6 : Blk (((((((w.setCell ⟨g, 0, none⟩ x0).setCell ⟨g, 1, none⟩ x1).setCell ⟨g, 2, none⟩ x2).setCell ⟨g, 3, none⟩ x3).setCell ⟨g, 4, none⟩ x4).setCell ⟨g, 5, none⟩ x5).setCell ⟨g, 6, none⟩ x6) g #[x0, x1, x2, x3, x4, x5, x6, c7, c8, c9, c10, c11, c12, c13] t := h5.set 6 x6
  have h7 : Blk ((((((((w.setCell ⟨g, 0, none⟩ x0).setCell ⟨g, 1, none⟩ x1).setCell ⟨g, 2, none⟩ x2).setCell ⟨g, 3, none⟩ x3).setCell ⟨g, 4, none⟩ x4).setCell ⟨g, 5, none⟩ x5).setCell ⟨g, 6, none⟩ x6).setCell ⟨g, 7, none⟩ x7) g #[x0, x1, x2, x3, x4, x5, x6, x7, c8, c9, c10, c11, c12, c13] t := h6.set 7 x7
  have h8 : Blk (((((((((w.setCell ⟨g, 0, none⟩ x0).setCell ⟨g, 1, none⟩ x1).setCell ⟨g, 2, none⟩ x2).setCell ⟨g, 3, none⟩ x3).setCell ⟨g, 4, none⟩ x4).setCell ⟨g, 5, none⟩ x5).setCell ⟨g, 6, none⟩ x6).setCell ⟨g, 7, none⟩ x7).setCell ⟨g, 8, none⟩ x8) g #[x0, x1, x2, x3, x4, x5, x6, x7, x8, c9, c10, c11, c12, c13] t := h7.set 8 x8
  have h9 : Blk ((((((((((w.setCell ⟨g, 0, none⟩ x0).setCell ⟨g, 1, none⟩ x1).setCell ⟨g, 2, none⟩ x2).setCell ⟨g, 3, none⟩ x3).setCell ⟨g, 4, none⟩ x4).setCell ⟨g, 5, none⟩ x5).setCell ⟨g, 6, none⟩ x6).setCell ⟨g, 7, none⟩ x7).setCell ⟨g, 8, none⟩ x8).setCell ⟨g, 9, none⟩ x9) g #[x0, x1, x2, x3, x4, x5, x6, x7, x8, x9, c10, c11, c12, c13] t := h8.set 9 x9
  have h10 : Blk (((((((((((w.setCell ⟨g, 0, none⟩ x0).setCell ⟨g, 1, none⟩ x1).setCell ⟨g, 2, none⟩ x2).setCell ⟨g, 3, none⟩ x3).setCell ⟨g, 4, none⟩ x4).setCell ⟨g, 5, none⟩ x5).setCell ⟨g, 6, none⟩ x6).setCell ⟨g, 7, none⟩ x7).setCell ⟨g, 8, none⟩ x8).setCell ⟨g, 9, none⟩ x9).setCell ⟨g, 10, none⟩ x10) g #[x0, x1, x2, x3, x4, x5, x6, x7, x8, x9, x10, c11, c12, c13] t := h9.set 10 x10
  have h11 : Blk ((((((((((((w.setCell ⟨g, 0, none⟩ x0).setCell ⟨g, 1, none⟩ x1).setCell ⟨g, 2, none⟩ x2).setCell ⟨g, 3, none⟩ x3).setCell ⟨g, 4, none⟩ x4).setCell ⟨g, 5, none⟩ x5).setCell ⟨g, 6, none⟩ x6).setCell ⟨g, 7, none⟩ x7).setCell ⟨g, 8, none⟩ x8).setCell ⟨g, 9, none⟩ x9).setCell ⟨g, 10, none⟩ x10).setCell ⟨g, 11, none⟩ x11) g #[x0, x1, x2, x3, x4, x5, x6, x7, x8, x9, x10, x11, c12, c13] t := h10.set 11 x11
  have h12 : Blk (((((((((((((w.setCell ⟨g, 0, none⟩ x0).setCell ⟨g, 1, none⟩ x1).setCell ⟨g, 2, none⟩ x2).setCell ⟨g, 3, none⟩ x3).setCell ⟨g, 4, none⟩ x4).setCell ⟨g, 5, none⟩ x5).setCell ⟨g, 6, none⟩ x6).setCell ⟨g, 7, none⟩ x7).setCell ⟨g, 8, none⟩ x8).setCell ⟨g, 9, none⟩ x9).setCell ⟨g, 10, none⟩ x10).setCell ⟨g, 11, none⟩ x11).setCell ⟨g, 12, none⟩ x12) g #[x0, x1, x2, x3, x4, x5, x6, x7, x8, x9, x10, x11, x12, c13] t := h11.set 12 x12
  have h13 : Blk ((((((((((((((w.setCell ⟨g, 0, none⟩ x0).setCell ⟨g, 1, none⟩ x1).setCell ⟨g, 2, none⟩ x2).setCell ⟨g, 3, none⟩ x3).setCell ⟨g, 4, none⟩ x4).setCell ⟨g, 5, none⟩ x5).setCell ⟨g, 6, none⟩ x6).setCell ⟨g, 7, none⟩ x7).setCell ⟨g, 8, none⟩ x8).setCell ⟨g, 9, none⟩ x9).setCell ⟨g, 10, none⟩ x10).setCell ⟨g, 11, none⟩ x11).setCell ⟨g, 12, none⟩ x12).setCell ⟨g, 13, none⟩ x13) g #[x0, x1, x2, x3, x4, x5, x6, x7, x8, x9, x10, x11, x12, x13] t := h12.set 13 x13
  exact h13
theorem Blk.oth14 {w : World} {b g : Nat} {c : Array Value} {t : TypeId} (H : Blk w b c t) (hne : g ≠ b) (x0 x1 x2 x3 x4 x5 x6 x7 x8 x9 x10 x11 x12 x13 : Value) : Blk ((((((((((((((w.setCell ⟨g, 0, none⟩ x0).setCell ⟨g, 1, none⟩ x1).setCell ⟨g, 2, none⟩ x2).setCell ⟨g, 3, none⟩ x3).setCell ⟨g, 4, none⟩ x4).setCell ⟨g, 5, none⟩ x5).setCell ⟨g, 6, none⟩ x6).setCell ⟨g, 7, none⟩ x7).setCell ⟨g, 8, none⟩ x8).setCell ⟨g, 9, none⟩ x9).setCell ⟨g, 10, none⟩ x10).setCell ⟨g, 11, none⟩ x11).setCell ⟨g, 12, none⟩ x12).setCell ⟨g, 13, none⟩ x13) b c t :=
  (((((((((((((H.other hne 0 x0).other hne 1 x1).other hne 2 x2).other hne 3 x3).other hne 4 x4).other hne 5 x5).other hne 6 x6).other hne 7 x7).other hne 8 x8).other hne 9 x9).other hne 10 x10).other hne 11 x11).other hne 12 x12).other hne 13 x13
theorem OwF.set14 {B : Nat} {w : World} {v : Value} {l : List Fd} (h : OwF B w v l) {g : Nat} (hg : g < B) (x0 x1 x2 x3 x4 x5 x6 x7 x8 x9 x10 x11 x12 x13 : Value) : OwF B ((((((((((((((w.setCell ⟨g, 0, none⟩ x0).setCell ⟨g, 1, none⟩ x1).setCell ⟨g, 2, none⟩ x2).setCell ⟨g, 3, none⟩ x3).setCell ⟨g, 4, none⟩ x4).setCell ⟨g, 5, none⟩ x5).setCell ⟨g, 6, none⟩ x6).setCell ⟨g, 7, none⟩ x7).setCell ⟨g, 8, none⟩ x8).setCell ⟨g, 9, none⟩ x9).setCell ⟨g, 10, none⟩ x10).setCell ⟨g, 11, none⟩ x11).setCell ⟨g, 12, none⟩ x12).setCell ⟨g, 13, none⟩ x13) v l :=
  (((((((((((((h.set hg 0 x0).set hg 1 x1).set hg 2 x2).set hg 3 x3).set hg 4 x4).set hg 5 x5).set hg 6 x6).set hg 7 x7).set hg 8 x8).set hg 9 x9).set hg 10 x10).set hg 11 x11).set hg 12 x12).set hg 13 x13
theorem below_set14 {B g : Nat} {w0 w : World} (H : Below B w0 w) (hg : B ≤ g) (x0 x1 x2 x3 x4 x5 x6 x7 x8 x9 x10 x11 x12 x13 : Value) : Below B w0 ((((((((((((((w.setCell ⟨g, 0, none⟩ x0).setCell ⟨g, 1, none⟩ x1).setCell ⟨g, 2, none⟩ x2).setCell ⟨g, 3, none⟩ x3).setCell ⟨g, 4, none⟩ x4).setCell ⟨g, 5, none⟩ x5).setCell ⟨g, 6, none⟩ x6).setCell ⟨g, 7, none⟩ x7).setCell ⟨g, 8, none⟩ x8).setCell ⟨g, 9, none⟩ x9).setCell ⟨g, 10, none⟩ x10).setCell ⟨g, 11, none⟩ x11).setCell ⟨g, 12, none⟩ x12).setCell ⟨g, 13, none⟩ x13) :=
  (((((((((((((H.setCell (p := ⟨g, 0, none⟩) hg x0).setCell (p := ⟨g, 1, none⟩) hg x1).setCell (p := ⟨g, 2, none⟩) hg x2).setCell (p := ⟨g, 3, none⟩) hg x3).setCell (p := ⟨g, 4, none⟩) hg x4).setCell (p := ⟨g, 5, none⟩) hg x5).setCell (p := ⟨g, 6, none⟩) hg x6).setCell (p := ⟨g, 7, none⟩) hg x7).setCell (p := ⟨g, 8, none⟩) hg x8).setCell (p := ⟨g, 9, none⟩) hg x9).setCell (p := ⟨g, 10, none⟩) hg x10).setCell (p := ⟨g, 11, none⟩) hg x11).setCell (p := ⟨g, 12, none⟩) hg x12).setCell (p := ⟨g, 13, none⟩) hg x13
theorem OwF.base {B B' : Nat} {w : World} {v : Value} {l : List Fd} (h : OwF B w v l) (hB : B' ≤ B) : OwF B' w v l := by
  refine ⟨⟨h.own.1, ?_⟩, Nat.le_trans hB h.le⟩
  rcases h.own.2 with h2 | ⟨g, cap, cur, h1, hg, r⟩
  · exact .inl h2
  · exact .inr ⟨g, cap, cur, h1, Nat.le_trans hB hg, r⟩
/-- Both messages as one value. -/
def tkV (q a : Mg) (v1 v2 : Value) : Value := .agg #[.string q.me, .string q.ta, .int .i64 q.st, .string q.re, .bool q.ba, v1, .string q.bo, .string a.me, .string a.ta, .int .i64 a.st, .string a.re, .bool a.ba, v2, .string a.bo]
theorem reqX_some {x : Ex} {q a : Mg} (h : exX x = some (q, a)) : reqX x = q ∧ ansX x = a := by unfold reqX ansX; rw [h]; exact ⟨rfl, rfl⟩
theorem reqX_none {x : Ex} (h : exX x = none) : reqX x = mg0 ∧ ansX x = mg0 := by unfold reqX ansX; rw [h]; exact ⟨rfl, rfl⟩
theorem reqX_bds (x : Ex) : MgB (reqX x) := by
  cases h : exX x with
  | none => rw [(reqX_none h).1]; exact mg0_bds
  | some y =>
    obtain ⟨q, a⟩ := y
    rw [(reqX_some h).1]
    unfold exX at h
    split at h
    · injection h with h; injection h with h1 h2; subst h1; exact rr_bds x
    · cases h
theorem ansX_bds (x : Ex) : MgB (ansX x) := by
  cases h : exX x with
  | none => rw [(reqX_none h).2]; exact mg0_bds
  | some y =>
    obtain ⟨q, a⟩ := y
    rw [(reqX_some h).2]
    unfold exX at h
    split at h
    · injection h with h; injection h with h1 h2; subst h2; exact ra_bds x _
    · cases h
/-- What is handed back of a reading. -/
def rdPost (w : World) (x : Ex) (e : Ending) (w' : World) : Prop :=
  ∃ v1 v2, e = .returned (.tuple #[tkV (reqX x) (ansX x) v1 v2, .bool (exX x).isSome]) ∧ OwF w.heap.size w' v1 (reqX x).fs ∧ OwF w.heap.size w' v2 (ansX x).fs ∧ Below w.heap.size w w'
theorem rd_none {w w' : World} {x : Ex} (h : exX x = none) (hb : Below w.heap.size w w') : rdPost w x (.returned (.tuple #[.agg #[.string ⟨#[]⟩, .string ⟨#[]⟩, .int .i64 0, .string ⟨#[]⟩, .bool false, .slice none 0 0, .string ⟨#[]⟩, .string ⟨#[]⟩, .string ⟨#[]⟩, .int .i64 0, .string ⟨#[]⟩, .bool false, .slice none 0 0, .string ⟨#[]⟩], .bool false])) w' := by
  refine ⟨.slice none 0 0, .slice none 0 0, ?_, ?_, ?_, hb⟩
  · rw [(reqX_none h).1, (reqX_none h).2, h]; rfl
  · rw [(reqX_none h).1]; exact OwF.start hb.size
  · rw [(reqX_none h).2]; exact OwF.start hb.size
end Go.Proofs.YthdgeepedofleaaGreatDoor
namespace Go.Proofs.YthdgeepedofleaaGreatDoor
set_option linter.unusedVariables false
set_option linter.unusedSimpArgs false
open Go.RowKit
theorem Tryz.infoTalk : (Tryz.prog.info? 75).map (·.size) = some 14 := by kernel_rfl
set_option maxRecDepth 100000 in
set_option maxHeartbeats 8000000 in
theorem read_any (si ak wh : Int) (ur rq an : ByteArray) (w : World) (z2 : rq.size ≤ 1048576) (z3 : an.size ≤ 1048576) (htab : Tab10 w) :
    Calls Tryz.prog 47 #[.agg #[.int .i64 si, .int .i64 ak, .int .i64 wh, .string ur, .string rq, .string an]] w fun e w' => rdPost w ⟨si, ak, wh, ur, rq, an⟩ e w' := by
  have HN1 := hideB2 (fun h => exX_no1 (x := ⟨si, ak, wh, ur, rq, an⟩) h)
  have HN2 := hideB2 (fun h => exX_no2 (x := ⟨si, ak, wh, ur, rq, an⟩) h)
  have HN3 := hideB2 (fun h => exX_no3 (x := ⟨si, ak, wh, ur, rq, an⟩) h)
  have HYY := hideB2 (fun h1 h2 h3 => exX_yes (x := ⟨si, ak, wh, ur, rq, an⟩) h1 h2 h3)
  have HRG := hideB2 (fun n W => right_any n W)
  have HTM := hideB2 (fun W => timesOk_any si ak wh ur rq an W)
  have HRR := hideB2 (fun W h => readRequest_any si ak wh ur rq an W z2 h)
  have HRA := hideB2 (fun m W h => readAnswer_any si ak wh ur rq an m W z3 h)
  have HT0 := hideB2 htab
  have hb0 := below_a1 w (.cells #[.int .i64 si, .int .i64 ak, .int .i64 wh, .string ur, .string rq, .string an] 24)
  have E0 := Blk.new w #[.int .i64 si, .int .i64 ak, .int .i64 wh, .string ur, .string rq, .string an] 24
  generalize hW0 : w.alloc (.cells #[.int .i64 si, .int .i64 ak, .int .i64 wh, .string ur, .string rq, .string an] 24) = W0 at *
  have n0 : W0.heap.size = w.heap.size + 1 := by rw [← hW0]; simp
  have A1 : Blk (W0.alloc (.cells #[.string ⟨#[]⟩, .string ⟨#[]⟩, .int .i64 0, .string ⟨#[]⟩, .bool false, .slice none 0 0, .string ⟨#[]⟩, .string ⟨#[]⟩, .string ⟨#[]⟩, .int .i64 0, .string ⟨#[]⟩, .bool false, .slice none 0 0, .string ⟨#[]⟩] 75)) (w.heap.size + 1) #[.string ⟨#[]⟩, .string ⟨#[]⟩, .int .i64 0, .string ⟨#[]⟩, .bool false, .slice none 0 0, .string ⟨#[]⟩, .string ⟨#[]⟩, .string ⟨#[]⟩, .int .i64 0, .string ⟨#[]⟩, .bool false, .slice none 0 0, .string ⟨#[]⟩] 75 := by rw [← n0]; exact Blk.new W0 _ _
  have E1 := E0.alloc (.cells #[.string ⟨#[]⟩, .string ⟨#[]⟩, .int .i64 0, .string ⟨#[]⟩, .bool false, .slice none 0 0, .string ⟨#[]⟩, .string ⟨#[]⟩, .string ⟨#[]⟩, .int .i64 0, .string ⟨#[]⟩, .bool false, .slice none 0 0, .string ⟨#[]⟩] 75)
  have hb1 := below_then hb0 (below_a1 W0 (.cells #[.string ⟨#[]⟩, .string ⟨#[]⟩, .int .i64 0, .string ⟨#[]⟩, .bool false, .slice none 0 0, .string ⟨#[]⟩, .string ⟨#[]⟩, .string ⟨#[]⟩, .int .i64 0, .string ⟨#[]⟩, .bool false, .slice none 0 0, .string ⟨#[]⟩] 75))
  have n1 : (W0.alloc (.cells #[.string ⟨#[]⟩, .string ⟨#[]⟩, .int .i64 0, .string ⟨#[]⟩, .bool false, .slice none 0 0, .string ⟨#[]⟩, .string ⟨#[]⟩, .string ⟨#[]⟩, .int .i64 0, .string ⟨#[]⟩, .bool false, .slice none 0 0, .string ⟨#[]⟩] 75)).heap.size = w.heap.size + 1 + 1 := by simp [n0]
  have HE1 := hideB2 E1
  have HA1 := hideB2 A1
  have HB1 := hideB2 hb1
  have HW1 := hideB2 n1
  obtain ⟨p0, p1, p2, p3, p4, p5⟩ := E1.c6
  subst hW0
  clear E0 A1 E1 hb0 hb1 n0 n1 htab
  cases hs : (si == 0 || si == 1)
  · have hx := HN1.out (by show exT _ = false; unfold exT; simp only; rw [hs]; rfl)
    clear HN1 HN2 HN3 HYY
    go_enter Tryz.func47, Tryz.ntmps47
    go_wp2_with (go_at_call 73; refine (HRG.out _ _).mono ?_; rintro e w' ⟨rfl, rfl⟩; rw [hs])
    refine bodyPost_ret (results_cellT rfl _ _ _ rfl HA1.out Tryz.underlying75 Tryz.infoTalk) rfl ?_
    exact rd_none hx HB1.out
  · cases ht : (timeB ak && timeB wh && decide (ak ≤ wh))
    · have hx := HN1.out (by show exT _ = false; unfold exT; simp only; rw [hs, ht]; rfl)
      rw [ht] at HTM
      clear HN1 HN2 HN3 HYY
      go_enter Tryz.func47, Tryz.ntmps47
      go_wp2_with (first | (go_at_call 73; refine (HRG.out _ _).mono ?_; rintro e w' ⟨rfl, rfl⟩; rw [hs]) | (go_at_call 74; refine (HTM.out _).mono ?_; rintro e w2 ⟨rfl, hb2⟩; have hA := HA1.out.later hb2; have g0 := hA.free; have k0 := hA.cell))
      refine bodyPost_ret (results_cellT rfl _ _ _ rfl (hA.set14 (.string ⟨#[]⟩) (.string ⟨#[]⟩) (.int .i64 0) (.string ⟨#[]⟩) (.bool false) (.slice none 0 0) (.string ⟨#[]⟩) (.string ⟨#[]⟩) (.string ⟨#[]⟩) (.int .i64 0) (.string ⟨#[]⟩) (.bool false) (.slice none 0 0) (.string ⟨#[]⟩)) Tryz.underlying75 Tryz.infoTalk) rfl ?_
      exact rd_none hx (below_set14 (below_then HB1.out hb2) (show w.heap.size ≤ w.heap.size + 1 by omega) (.string ⟨#[]⟩) (.string ⟨#[]⟩) (.int .i64 0) (.string ⟨#[]⟩) (.bool false) (.slice none 0 0) (.string ⟨#[]⟩) (.string ⟨#[]⟩) (.string ⟨#[]⟩) (.int .i64 0) (.string ⟨#[]⟩) (.bool false) (.slice none 0 0) (.string ⟨#[]⟩))
    · have het : exT ⟨si, ak, wh, ur, rq, an⟩ = true := by unfold exT; simp only; rw [hs, ht]; rfl
      rw [ht] at HTM
      clear HN1
      generalize hrr : rrX ⟨si, ak, wh, ur, rq, an⟩ = RR at *
      obtain ⟨q, O⟩ := RR
      obtain ⟨qme, qta, qst, qre, qba, qfs, qbo⟩ := q
      simp only at HN2 HN3 HYY HRR
      simp only [mgV] at HRR
      generalize hra : raX ⟨si, ak, wh, ur, rq, an⟩ qme = RA at *
      obtain ⟨a, O2⟩ := RA
      obtain ⟨ame, ata, ast, are, aba, afs, abo⟩ := a
      have HRA2 := hideB2 (fun W h => HRA.out qme W h)
      rw [hra] at HRA2
      simp only [mgV] at HRA2
      simp only at HN3 HYY
      clear HRA hra hrr
      go_enter Tryz.func47, Tryz.ntmps47
      go_wp2_with (first | (go_at_call 73; refine (HRG.out _ _).mono ?_; rintro e w' ⟨rfl, rfl⟩; rw [hs]) | (go_at_call 74; refine (HTM.out _).mono ?_; rintro e w2 ⟨rfl, hb2⟩; have hE2 := HE1.out.later hb2; have hA2 := HA1.out.later hb2; have hB2 := below_then HB1.out hb2; clear p0 p1 p2 p3 p4 p5; obtain ⟨p0, p1, p2, p3, p4, p5⟩ := hE2.c6))
      refine (HRR.out _ (tab_later HT0.out hB2)).mono ?_
      rintro e w3 ⟨v, rfl, hbuf⟩
      obtain ⟨qa, qc, rfl⟩ := hbuf.form
      have hb3 := hbuf.below
      have hE3 := hE2.later hb3
      have hA3 := hA2.later hb3
      have hB3 := below_then hB2 hb3
      have hO3 := (show OwF _ w3 (.slice qa qfs.length qc) qfs from ⟨hbuf.own, hb3.size⟩).base (B' := w.heap.size + 1 + 1) (Nat.le_trans (Nat.le_of_eq HW1.out.symm) hb2.size)
      have hl3 := hA3.lt
      clear p0 p1 p2 p3 p4 p5 hbuf HRR HE1 HA1 HB1 HRG HTM hE2 hA2 hB2
      cases O
      · have hx := HN2.out rfl
        clear HN2 HN3 HYY HRA2
        have k0 := hA3.cell
        have g0 := hA3.free
        have hZ := hideB2 ((hA3.set14 (.string ⟨#[]⟩) (.string ⟨#[]⟩) (.int .i64 0) (.string ⟨#[]⟩) (.bool false) (.slice none 0 0) (.string ⟨#[]⟩) (.string ⟨#[]⟩) (.string ⟨#[]⟩) (.int .i64 0) (.string ⟨#[]⟩) (.bool false) (.slice none 0 0) (.string ⟨#[]⟩)).alloc (.cells #[.string qme, .string qta, .int .i64 qst, .string qre, .bool qba, .slice qa qfs.length qc, .string qbo] 50))
        have hZB := hideB2 (below_then (below_set14 hB3 (show w.heap.size ≤ w.heap.size + 1 by omega) (.string ⟨#[]⟩) (.string ⟨#[]⟩) (.int .i64 0) (.string ⟨#[]⟩) (.bool false) (.slice none 0 0) (.string ⟨#[]⟩) (.string ⟨#[]⟩) (.string ⟨#[]⟩) (.int .i64 0) (.string ⟨#[]⟩) (.bool false) (.slice none 0 0) (.string ⟨#[]⟩)) (below_a1 _ (.cells #[.string qme, .string qta, .int .i64 qst, .string qre, .bool qba, .slice qa qfs.length qc, .string qbo] 50)))
        clear hb3 hb2 hE3 hO3 hA3 hB3
        go_wp2
        refine bodyPost_ret (results_cellT rfl _ _ _ rfl hZ.out Tryz.underlying75 Tryz.infoTalk) rfl ?_
        exact rd_none hx hZB.out
      · have HYY2 := hideB2 (fun h => HYY.out het rfl h)
        clear HN2 HYY
        have hal := below_a1 w3 (.cells #[.string qme, .string qta, .int .i64 qst, .string qre, .bool qba, .slice qa qfs.length qc, .string qbo] 50)
        have M4 := Blk.new w3 #[.string qme, .string qta, .int .i64 qst, .string qre, .bool qba, .slice qa qfs.length qc, .string qbo] 50
        have E4 := hE3.alloc (.cells #[.string qme, .string qta, .int .i64 qst, .string qre, .bool qba, .slice qa qfs.length qc, .string qbo] 50)
        have A4 := hA3.alloc (.cells #[.string qme, .string qta, .int .i64 qst, .string qre, .bool qba, .slice qa qfs.length qc, .string qbo] 50)
        have O4 := hO3.alloc (.cells #[.string qme, .string qta, .int .i64 qst, .string qre, .bool qba, .slice qa qfs.length qc, .string qbo] 50)
        have hB4 := below_then hB3 hal
        have hlE := hE3.lt
        obtain ⟨p0, p1, p2, p3, p4, p5⟩ := E4.c6
        obtain ⟨m0, m1, m2, m3, m4, m5, m6⟩ := M4.c7
        clear hE3 hA3 hO3 hB3
        go_wp2_with fail
        generalize hW : w3.alloc (.cells #[.string qme, .string qta, .int .i64 qst, .string qre, .bool qba, .slice qa qfs.length qc, .string qbo] 50) = W4 at *
        clear hW hal p0 p1 p2 p3 p4 p5 m0 m1 m2 m3 m4 m5 m6 hb3 hb2
        generalize w3.heap.size = G at *
        refine (HRA2.out _ (tab_later HT0.out hB4)).mono ?_
        rintro e w5 ⟨v, rfl, hbuf⟩
        obtain ⟨aa, ac, rfl⟩ := hbuf.form
        have hb5 := hbuf.below
        have M5 := M4.later hb5
        have A5 := A4.later hb5
        have O5 := O4.later hb5
        have hB5 := below_then hB4 hb5
        have hP5 := (show OwF _ w5 (.slice aa afs.length ac) afs from ⟨hbuf.own, hb5.size⟩).base (B' := w.heap.size + 1 + 1) O4.le
        have hl5 := M5.lt
        have hl5' := A5.lt
        clear hbuf HRA2 M4 E4 A4 O4 hB4 hb5
        cases O2
        · have hx := HN3.out rfl
          clear HN3 HYY2
          have k0 := A5.cell
          have g0 := A5.free
          have hZ := hideB2 ((A5.set14 (.string ⟨#[]⟩) (.string ⟨#[]⟩) (.int .i64 0) (.string ⟨#[]⟩) (.bool false) (.slice none 0 0) (.string ⟨#[]⟩) (.string ⟨#[]⟩) (.string ⟨#[]⟩) (.int .i64 0) (.string ⟨#[]⟩) (.bool false) (.slice none 0 0) (.string ⟨#[]⟩)).alloc (.cells #[.string ame, .string ata, .int .i64 ast, .string are, .bool aba, .slice aa afs.length ac, .string abo] 50))
          have hZB := hideB2 (below_then (below_set14 hB5 (show w.heap.size ≤ w.heap.size + 1 by omega) (.string ⟨#[]⟩) (.string ⟨#[]⟩) (.int .i64 0) (.string ⟨#[]⟩) (.bool false) (.slice none 0 0) (.string ⟨#[]⟩) (.string ⟨#[]⟩) (.string ⟨#[]⟩) (.int .i64 0) (.string ⟨#[]⟩) (.bool false) (.slice none 0 0) (.string ⟨#[]⟩)) (below_a1 _ (.cells #[.string ame, .string ata, .int .i64 ast, .string are, .bool aba, .slice aa afs.length ac, .string abo] 50)))
          clear M5 A5 O5 hB5 hP5
          go_wp2
          refine bodyPost_ret (results_cellT rfl _ _ _ rfl hZ.out Tryz.underlying75 Tryz.infoTalk) rfl ?_
          exact rd_none hx hZB.out
        · have hx := HYY2.out rfl
          clear HN3 HYY2
          have k0 := A5.cell
          have g0 := A5.free
          obtain ⟨m0, m1, m2, m3, m4, m5, m6⟩ := M5.c7
          have hZ := hideB2 ((A5.set14 (.string qme) (.string qta) (.int .i64 qst) (.string qre) (.bool qba) (.slice qa qfs.length qc) (.string qbo) (.string ame) (.string ata) (.int .i64 ast) (.string are) (.bool aba) (.slice aa afs.length ac) (.string abo)).alloc (.cells #[.string ame, .string ata, .int .i64 ast, .string are, .bool aba, .slice aa afs.length ac, .string abo] 50))
          have hZB := hideB2 (below_then (below_set14 hB5 (show w.heap.size ≤ w.heap.size + 1 by omega) (.string qme) (.string qta) (.int .i64 qst) (.string qre) (.bool qba) (.slice qa qfs.length qc) (.string qbo) (.string ame) (.string ata) (.int .i64 ast) (.string are) (.bool aba) (.slice aa afs.length ac) (.string abo)) (below_a1 _ (.cells #[.string ame, .string ata, .int .i64 ast, .string are, .bool aba, .slice aa afs.length ac, .string abo] 50)))
          have hO9 := hideB2 (((O5.set14 (g := w.heap.size + 1) (by omega) (.string qme) (.string qta) (.int .i64 qst) (.string qre) (.bool qba) (.slice qa qfs.length qc) (.string qbo) (.string ame) (.string ata) (.int .i64 ast) (.string are) (.bool aba) (.slice aa afs.length ac) (.string abo)).alloc (.cells #[.string ame, .string ata, .int .i64 ast, .string are, .bool aba, .slice aa afs.length ac, .string abo] 50)).base (show w.heap.size ≤ w.heap.size + 1 + 1 by omega))
          have hP9 := hideB2 (((hP5.set14 (g := w.heap.size + 1) (by omega) (.string qme) (.string qta) (.int .i64 qst) (.string qre) (.bool qba) (.slice qa qfs.length qc) (.string qbo) (.string ame) (.string ata) (.int .i64 ast) (.string are) (.bool aba) (.slice aa afs.length ac) (.string abo)).alloc (.cells #[.string ame, .string ata, .int .i64 ast, .string are, .bool aba, .slice aa afs.length ac, .string abo] 50)).base (show w.heap.size ≤ w.heap.size + 1 + 1 by omega))
          clear M5 A5 O5 hB5 hP5
          go_wp2
          refine bodyPost_ret (results_cellT rfl _ _ _ rfl hZ.out Tryz.underlying75 Tryz.infoTalk) rfl ⟨.slice qa qfs.length qc, .slice aa afs.length ac, ?_, ?_, ?_, hZB.out⟩
          · rw [(reqX_some hx).1, (reqX_some hx).2, hx]; rfl
          · rw [(reqX_some hx).1]; exact hO9.out
          · rw [(reqX_some hx).2]; exact hP9.out
end Go.Proofs.YthdgeepedofleaaGreatDoor
namespace Go.Proofs.YthdgeepedofleaaGreatDoor
set_option linter.unusedVariables false
set_option linter.unusedSimpArgs false
open Go.RowKit
set_option maxRecDepth 100000 in
set_option maxHeartbeats 4000000 in
theorem RequestOf_any (x : Ex) (w : World) (z1 : x.ur.size ≤ 1048576) (z2 : x.rq.size ≤ 1048576) (z3 : x.an.size ≤ 1048576) (htab : Tab10 w) :
    Calls Tryz.prog 27 #[exV x] w fun e w' => ∃ v, e = .returned (mgV (reqX x) v) ∧ BufF w w' v (reqX x).fs := by
  obtain ⟨si, ak, wh, ur, rq, an⟩ := x
  simp only at z1 z2 z3
  unfold exV exC6
  simp only
  have hb0 := below_a1 w (.cells #[.int .i64 si, .int .i64 ak, .int .i64 wh, .string ur, .string rq, .string an] 24)
  generalize hW0 : w.alloc (.cells #[.int .i64 si, .int .i64 ak, .int .i64 wh, .string ur, .string rq, .string an] 24) = W0 at *
  have n0 : W0.heap.size = w.heap.size + 1 := by rw [← hW0]; simp
  have A1 : Blk (W0.alloc (.cells #[.string ⟨#[]⟩, .string ⟨#[]⟩, .int .i64 0, .string ⟨#[]⟩, .bool false, .slice none 0 0, .string ⟨#[]⟩] 50)) (w.heap.size + 1) #[.string ⟨#[]⟩, .string ⟨#[]⟩, .int .i64 0, .string ⟨#[]⟩, .bool false, .slice none 0 0, .string ⟨#[]⟩] 50 := by rw [← n0]; exact Blk.new W0 _ _
  have hb1 := below_then hb0 (below_a1 W0 (.cells #[.string ⟨#[]⟩, .string ⟨#[]⟩, .int .i64 0, .string ⟨#[]⟩, .bool false, .slice none 0 0, .string ⟨#[]⟩] 50))
  have n1 : (W0.alloc (.cells #[.string ⟨#[]⟩, .string ⟨#[]⟩, .int .i64 0, .string ⟨#[]⟩, .bool false, .slice none 0 0, .string ⟨#[]⟩] 50)).heap.size = w.heap.size + 1 + 1 := by simp [n0]
  have HA := hideB2 A1
  have HB := hideB2 hb1
  have HN := hideB2 n1
  have HT := hideB2 (tab_later htab hb1)
  clear htab
  subst hW0
  clear hb0 n0 A1 hb1 n1
  have HR := hideB2 (fun W h => read_any si ak wh ur rq an W z2 z3 h)
  simp only [rdPost, tkV] at HR ⊢
  clear z1 z2 z3
  generalize (exX ⟨si, ak, wh, ur, rq, an⟩).isSome = O at *
  generalize reqX ⟨si, ak, wh, ur, rq, an⟩ = q at *
  generalize ansX ⟨si, ak, wh, ur, rq, an⟩ = a at *
  obtain ⟨qme, qta, qst, qre, qba, qfs, qbo⟩ := q
  obtain ⟨ame, ata, ast, are, aba, afs, abo⟩ := a
  simp only at HR ⊢
  go_enter Tryz.func27, Tryz.ntmps27
  go_wp2_with fail
  refine (HR.out _ HT.out).mono ?_
  rintro e w2 ⟨v1, v2, rfl, ho1, ho2, hb2⟩
  obtain ⟨qa, qc, rfl⟩ := ho1.form
  obtain ⟨aa, ac, rfl⟩ := ho2.form
  rw [HN.out] at ho1 ho2
  have A2 := HA.out.later hb2
  have hl2 := A2.lt
  obtain ⟨a0, a1, a2, a3, a4, a5, a6⟩ := A2.c7
  obtain ⟨f0, f1, f2, f3, f4, f5, f6⟩ := A2.f7
  have hA7 := hideB2 ((A2.set7 (.string qme) (.string qta) (.int .i64 qst) (.string qre) (.bool qba) (.slice qa qfs.length qc) (.string qbo)).alloc (.cells #[.string qme, .string qta, .int .i64 qst, .string qre, .bool qba, .slice qa qfs.length qc, .string qbo, .string ame, .string ata, .int .i64 ast, .string are, .bool aba, .slice aa afs.length ac, .string abo] 75))
  have hO7 := hideB2 ((((ho1.set7 (g := w.heap.size + 1) (by omega) (.string qme) (.string qta) (.int .i64 qst) (.string qre) (.bool qba) (.slice qa qfs.length qc) (.string qbo)).alloc (.cells #[.string qme, .string qta, .int .i64 qst, .string qre, .bool qba, .slice qa qfs.length qc, .string qbo, .string ame, .string ata, .int .i64 ast, .string are, .bool aba, .slice aa afs.length ac, .string abo] 75))).buf (w0 := w) (by omega) (below_then (below_set7 (below_then HB.out hb2) (show w.heap.size ≤ w.heap.size + 1 by omega) (.string qme) (.string qta) (.int .i64 qst) (.string qre) (.bool qba) (.slice qa qfs.length qc) (.string qbo)) (below_a1 _ (.cells #[.string qme, .string qta, .int .i64 qst, .string qre, .bool qba, .slice qa qfs.length qc, .string qbo, .string ame, .string ata, .int .i64 ast, .string are, .bool aba, .slice aa afs.length ac, .string abo] 75))))
  clear A2 ho1 ho2 hb2
  go_wp2
  refine bodyPost_ret (results_cellS rfl _ _ _ rfl hA7.out Tryz.underlying50 Tryz.infoMsg) rfl ⟨(.slice qa qfs.length qc), ?_, hO7.out⟩
  rfl
set_option maxRecDepth 100000 in
set_option maxHeartbeats 4000000 in
theorem AnswerOf_any (x : Ex) (w : World) (z1 : x.ur.size ≤ 1048576) (z2 : x.rq.size ≤ 1048576) (z3 : x.an.size ≤ 1048576) (htab : Tab10 w) :
    Calls Tryz.prog 48 #[exV x] w fun e w' => ∃ v, e = .returned (mgV (ansX x) v) ∧ BufF w w' v (ansX x).fs := by
  obtain ⟨si, ak, wh, ur, rq, an⟩ := x
  simp only at z1 z2 z3
  unfold exV exC6
  simp only
  have hb0 := below_a1 w (.cells #[.int .i64 si, .int .i64 ak, .int .i64 wh, .string ur, .string rq, .string an] 24)
  generalize hW0 : w.alloc (.cells #[.int .i64 si, .int .i64 ak, .int .i64 wh, .string ur, .string rq, .string an] 24) = W0 at *
  have n0 : W0.heap.size = w.heap.size + 1 := by rw [← hW0]; simp
  have A1 : Blk (W0.alloc (.cells #[.string ⟨#[]⟩, .string ⟨#[]⟩, .int .i64 0, .string ⟨#[]⟩, .bool false, .slice none 0 0, .string ⟨#[]⟩] 50)) (w.heap.size + 1) #[.string ⟨#[]⟩, .string ⟨#[]⟩, .int .i64 0, .string ⟨#[]⟩, .bool false, .slice none 0 0, .string ⟨#[]⟩] 50 := by rw [← n0]; exact Blk.new W0 _ _
  have hb1 := below_then hb0 (below_a1 W0 (.cells #[.string ⟨#[]⟩, .string ⟨#[]⟩, .int .i64 0, .string ⟨#[]⟩, .bool false, .slice none 0 0, .string ⟨#[]⟩] 50))
  have n1 : (W0.alloc (.cells #[.string ⟨#[]⟩, .string ⟨#[]⟩, .int .i64 0, .string ⟨#[]⟩, .bool false, .slice none 0 0, .string ⟨#[]⟩] 50)).heap.size = w.heap.size + 1 + 1 := by simp [n0]
  have HA := hideB2 A1
  have HB := hideB2 hb1
  have HN := hideB2 n1
  have HT := hideB2 (tab_later htab hb1)
  clear htab
  subst hW0
  clear hb0 n0 A1 hb1 n1
  have HR := hideB2 (fun W h => read_any si ak wh ur rq an W z2 z3 h)
  simp only [rdPost, tkV] at HR ⊢
  clear z1 z2 z3
  generalize (exX ⟨si, ak, wh, ur, rq, an⟩).isSome = O at *
  generalize reqX ⟨si, ak, wh, ur, rq, an⟩ = q at *
  generalize ansX ⟨si, ak, wh, ur, rq, an⟩ = a at *
  obtain ⟨qme, qta, qst, qre, qba, qfs, qbo⟩ := q
  obtain ⟨ame, ata, ast, are, aba, afs, abo⟩ := a
  simp only at HR ⊢
  go_enter Tryz.func48, Tryz.ntmps48
  go_wp2_with fail
  refine (HR.out _ HT.out).mono ?_
  rintro e w2 ⟨v1, v2, rfl, ho1, ho2, hb2⟩
  obtain ⟨qa, qc, rfl⟩ := ho1.form
  obtain ⟨aa, ac, rfl⟩ := ho2.form
  rw [HN.out] at ho1 ho2
  have A2 := HA.out.later hb2
  have hl2 := A2.lt
  obtain ⟨a0, a1, a2, a3, a4, a5, a6⟩ := A2.c7
  obtain ⟨f0, f1, f2, f3, f4, f5, f6⟩ := A2.f7
  have hA7 := hideB2 ((A2.set7 (.string ame) (.string ata) (.int .i64 ast) (.string are) (.bool aba) (.slice aa afs.length ac) (.string abo)).alloc (.cells #[.string qme, .string qta, .int .i64 qst, .string qre, .bool qba, .slice qa qfs.length qc, .string qbo, .string ame, .string ata, .int .i64 ast, .string are, .bool aba, .slice aa afs.length ac, .string abo] 75))
  have hO7 := hideB2 ((((ho2.set7 (g := w.heap.size + 1) (by omega) (.string ame) (.string ata) (.int .i64 ast) (.string are) (.bool aba) (.slice aa afs.length ac) (.string abo)).alloc (.cells #[.string qme, .string qta, .int .i64 qst, .string qre, .bool qba, .slice qa qfs.length qc, .string qbo, .string ame, .string ata, .int .i64 ast, .string are, .bool aba, .slice aa afs.length ac, .string abo] 75))).buf (w0 := w) (by omega) (below_then (below_set7 (below_then HB.out hb2) (show w.heap.size ≤ w.heap.size + 1 by omega) (.string ame) (.string ata) (.int .i64 ast) (.string are) (.bool aba) (.slice aa afs.length ac) (.string abo)) (below_a1 _ (.cells #[.string qme, .string qta, .int .i64 qst, .string qre, .bool qba, .slice qa qfs.length qc, .string qbo, .string ame, .string ata, .int .i64 ast, .string are, .bool aba, .slice aa afs.length ac, .string abo] 75))))
  clear A2 ho1 ho2 hb2
  go_wp2
  refine bodyPost_ret (results_cellS rfl _ _ _ rfl hA7.out Tryz.underlying50 Tryz.infoMsg) rfl ⟨(.slice aa afs.length ac), ?_, hO7.out⟩
  rfl
set_option maxRecDepth 100000 in
set_option maxHeartbeats 4000000 in
theorem ExchOk_any (x : Ex) (w : World) (z1 : x.ur.size ≤ 1048576) (z2 : x.rq.size ≤ 1048576) (z3 : x.an.size ≤ 1048576) (htab : Tab10 w) :
    Calls Tryz.prog 21 #[exV x] w fun e w' => e = .returned (.bool (exX x).isSome) ∧ Below w.heap.size w w' := by
  obtain ⟨si, ak, wh, ur, rq, an⟩ := x
  simp only at z1 z2 z3
  unfold exV exC6
  simp only
  have hb1 := below_a1 w (.cells #[.int .i64 si, .int .i64 ak, .int .i64 wh, .string ur, .string rq, .string an] 24)
  have HB := hideB2 hb1
  have HT := hideB2 (tab_later htab hb1)
  clear htab
  clear hb1
  have HR := hideB2 (fun W h => read_any si ak wh ur rq an W z2 z3 h)
  simp only [rdPost, tkV] at HR ⊢
  clear z1 z2 z3
  generalize (exX ⟨si, ak, wh, ur, rq, an⟩).isSome = O at *
  generalize reqX ⟨si, ak, wh, ur, rq, an⟩ = q at *
  generalize ansX ⟨si, ak, wh, ur, rq, an⟩ = a at *
  obtain ⟨qme, qta, qst, qre, qba, qfs, qbo⟩ := q
  obtain ⟨ame, ata, ast, are, aba, afs, abo⟩ := a
  simp only at HR ⊢
  go_enter Tryz.func21, Tryz.ntmps21
  go_wp2_with fail
  refine (HR.out _ HT.out).mono ?_
  rintro e w2 ⟨v1, v2, rfl, ho1, ho2, hb2⟩
  obtain ⟨qa, qc, rfl⟩ := ho1.form
  obtain ⟨aa, ac, rfl⟩ := ho2.form
  have HB2 := hideB2 (below_then (below_then HB.out hb2) (below_a1 w2 (.cells #[.string qme, .string qta, .int .i64 qst, .string qre, .bool qba, .slice qa qfs.length qc, .string qbo, .string ame, .string ata, .int .i64 ast, .string are, .bool aba, .slice aa afs.length ac, .string abo] 75)))
  clear ho1 ho2 hb2
  go_wp2
  go_ret
  exact ⟨rfl, HB2.out⟩
set_option maxRecDepth 100000 in
set_option maxHeartbeats 4000000 in
theorem MethodOf_any (x : Ex) (w : World) (z1 : x.ur.size ≤ 1048576) (z2 : x.rq.size ≤ 1048576) (z3 : x.an.size ≤ 1048576) (htab : Tab10 w) :
    Calls Tryz.prog 23 #[exV x] w fun e w' => e = .returned (.string (reqX x).me) ∧ Below w.heap.size w w' := by
  obtain ⟨si, ak, wh, ur, rq, an⟩ := x
  simp only at z1 z2 z3
  unfold exV exC6
  simp only
  have hb0 := below_a1 w (.cells #[.int .i64 si, .int .i64 ak, .int .i64 wh, .string ur, .string rq, .string an] 24)
  have HB := hideB2 hb0
  have HR := hideB2 (fun W h => RequestOf_any ⟨si, ak, wh, ur, rq, an⟩ W z1 z2 z3 h)
  have HT := hideB2 (tab_later htab hb0)
  simp only [exV, exC6] at HR
  clear hb0 htab z1 z2 z3
  generalize reqX ⟨si, ak, wh, ur, rq, an⟩ = g at *
  obtain ⟨me, ta, st, re, ba, fs, bo⟩ := g
  simp only [mgV] at HR ⊢
  go_enter Tryz.func23, Tryz.ntmps23
  go_wp2_with fail
  refine (HR.out _ HT.out).mono ?_
  rintro e w2 ⟨v, rfl, hbuf⟩
  obtain ⟨va, vc, rfl⟩ := hbuf.form
  have HB2 := hideB2 (below_then HB.out hbuf.below)
  have hfd : ∀ W : World, (Instr.field 50 (.agg #[.string me, .string ta, .int .i64 st, .string re, .bool ba, .slice va fs.length vc, .string bo]) 0).run Tryz.prog W = .ok (.string me) W := fun W => by kernel_rfl
  clear hbuf
  go_wp2
  go_ret
  exact ⟨rfl, HB2.out⟩
set_option maxRecDepth 100000 in
set_option maxHeartbeats 4000000 in
theorem StatusOf_any (x : Ex) (w : World) (z1 : x.ur.size ≤ 1048576) (z2 : x.rq.size ≤ 1048576) (z3 : x.an.size ≤ 1048576) (htab : Tab10 w) :
    Calls Tryz.prog 25 #[exV x] w fun e w' => e = .returned (.int .i64 (ansX x).st) ∧ Below w.heap.size w w' := by
  obtain ⟨si, ak, wh, ur, rq, an⟩ := x
  simp only at z1 z2 z3
  unfold exV exC6
  simp only
  have hb0 := below_a1 w (.cells #[.int .i64 si, .int .i64 ak, .int .i64 wh, .string ur, .string rq, .string an] 24)
  have HB := hideB2 hb0
  have HR := hideB2 (fun W h => AnswerOf_any ⟨si, ak, wh, ur, rq, an⟩ W z1 z2 z3 h)
  have HT := hideB2 (tab_later htab hb0)
  simp only [exV, exC6] at HR
  clear hb0 htab z1 z2 z3
  generalize ansX ⟨si, ak, wh, ur, rq, an⟩ = g at *
  obtain ⟨me, ta, st, re, ba, fs, bo⟩ := g
  simp only [mgV] at HR ⊢
  go_enter Tryz.func25, Tryz.ntmps25
  go_wp2_with fail
  refine (HR.out _ HT.out).mono ?_
  rintro e w2 ⟨v, rfl, hbuf⟩
  obtain ⟨va, vc, rfl⟩ := hbuf.form
  have HB2 := hideB2 (below_then HB.out hbuf.below)
  have hfd : ∀ W : World, (Instr.field 50 (.agg #[.string me, .string ta, .int .i64 st, .string re, .bool ba, .slice va fs.length vc, .string bo]) 2).run Tryz.prog W = .ok (.int .i64 st) W := fun W => by kernel_rfl
  clear hbuf
  go_wp2
  go_ret
  exact ⟨rfl, HB2.out⟩
end Go.Proofs.YthdgeepedofleaaGreatDoor
namespace Go.Proofs.YthdgeepedofleaaGreatDoor
set_option linter.unusedVariables false
set_option linter.unusedSimpArgs false
open Go.RowKit

end Go.Proofs.YthdgeepedofleaaGreatDoor
namespace Go.Proofs.YthdgeepedofleaaGreatDoor
set_option linter.unusedVariables false
set_option linter.unusedSimpArgs false
open Go.RowKit

set_option maxHeartbeats 400000 in
theorem l2time_any (t : Int) (w : World) :
    Calls Tryz.prog 68 #[.int .i64 t] w fun e w' => e = .returned (.bool (timeB t)) ∧ w' = w := by
  by_cases h : 0 ≤ t
  · by_cases h' : t ≤ 253402300799
    · rw [show timeB t = true from timeB_iff.2 ⟨h, h'⟩]
      go_enter Tryz.func68, Tryz.ntmps68
      go_wp2
      go_ret
      exact ⟨rfl, rfl⟩
    · rw [show timeB t = false from timeB_no (by omega)]
      go_enter Tryz.func68, Tryz.ntmps68
      go_wp2
      go_ret
      exact ⟨rfl, rfl⟩
  · rw [show timeB t = false from timeB_no (by omega)]
    go_enter Tryz.func68, Tryz.ntmps68
    go_wp2
    go_ret
    exact ⟨rfl, rfl⟩
end Go.Proofs.YthdgeepedofleaaGreatDoor
namespace Go.Proofs.YthdgeepedofleaaGreatDoor
set_option linter.unusedVariables false
set_option linter.unusedSimpArgs false
open Go.RowKit
theorem results_CCT {fn : Func} {p p2 u : Tmp} {ty : TypeId} (h : fn.results = #[.cell p ty, .cell p2 ty, .tmp u]) (tmps : Array Value) (P : Program) (w : World) {b b2 : Nat} {c c2 : Array Value} {t t2 : TypeId} {fs : Array Field} (hp : tmps.getD p undef = .pointer (some ⟨b, 0, none⟩)) (hB : Blk w b c t) (hp2 : tmps.getD p2 undef = .pointer (some ⟨b2, 0, none⟩)) (hB2 : Blk w b2 c2 t2)
    (hu : P.underlying ty = some (.struct fs)) (hi : (P.info? ty).map (·.size) = some c.size) (hi2 : (P.info? ty).map (·.size) = some c2.size) : (results fn tmps).run P w = .ok (.tuple #[.agg c, .agg c2, tmps.getD u undef]) w := by
  have hrun := run_loadVar_row (P := P) w b t ty c (0, 0) _ hB hu rfl hi
  have hrun2 := run_loadVar_row (P := P) w b2 t2 ty c2 (0, 0) _ hB2 hu rfl hi2
  have ha : (asAddr (tmps.getD p undef)).run P w = .ok ⟨b, 0, none⟩ w := by rw [hp]; rfl
  have ha2 : (asAddr (tmps.getD p2 undef)).run P w = .ok ⟨b2, 0, none⟩ w := by rw [hp2]; rfl
  have he : (results fn tmps).run P w = ((asAddr (tmps.getD p undef)).run P w).andThen fun a w₁ => ((loadVar ty a).run P w₁).andThen fun v w₂ => ((asAddr (tmps.getD p2 undef)).run P w₂).andThen fun a' w₃ => ((loadVar ty a').run P w₃).andThen fun v' w₄ => .ok (.tuple #[v, v', tmps.getD u undef]) w₄ := by
    simp only [results, h]
    simp [Sem.run_bind, Result.andThen]
  rw [he, ha]
  show ((loadVar ty ⟨b, 0, none⟩).run P w).andThen _ = _
  rw [hrun]
  show ((asAddr (tmps.getD p2 undef)).run P w).andThen _ = _
  rw [ha2]
  show ((loadVar ty ⟨b2, 0, none⟩).run P w).andThen _ = _
  rw [hrun2]
  rfl
theorem eqB_head2 {s : ByteArray} : eqB s headW = (s.toList == [72, 69, 65, 68]) := by unfold eqB; rw [ByteArray.toList_eq headW]; rfl
def srdPost (w : World) (x : Ex) (e : Ending) (w' : World) : Prop :=
  ∃ v1 v2, e = .returned (.tuple #[mgV (reqX x) v1, mgV (ansX x) v2, .bool (exX x).isSome]) ∧ OwF w.heap.size w' v1 (reqX x).fs ∧ OwF w.heap.size w' v2 (ansX x).fs ∧ Below w.heap.size w w'
theorem srd_none {w w' : World} {x : Ex} (h : exX x = none) (hb : Below w.heap.size w w') : srdPost w x (.returned (.tuple #[.agg #[.string ⟨#[]⟩, .string ⟨#[]⟩, .int .i64 0, .string ⟨#[]⟩, .bool false, .slice none 0 0, .string ⟨#[]⟩], .agg #[.string ⟨#[]⟩, .string ⟨#[]⟩, .int .i64 0, .string ⟨#[]⟩, .bool false, .slice none 0 0, .string ⟨#[]⟩], .bool false])) w' := by
  refine ⟨.slice none 0 0, .slice none 0 0, ?_, ?_, ?_, hb⟩
  · rw [(reqX_none h).1, (reqX_none h).2, h]; rfl
  · rw [(reqX_none h).1]; exact OwF.start hb.size
  · rw [(reqX_none h).2]; exact OwF.start hb.size
set_option maxRecDepth 100000 in
set_option maxHeartbeats 8000000 in
theorem l10read_any (si ak wh : Int) (ur rq an : ByteArray) (w : World) (z2 : rq.size ≤ 1048576) (z3 : an.size ≤ 1048576) :
    Calls Tryz.prog 46 #[.agg #[.int .i64 si, .int .i64 ak, .int .i64 wh, .string ur, .string rq, .string an]] w fun e w' => srdPost w ⟨si, ak, wh, ur, rq, an⟩ e w' := by
  have HN1 := hideB2 (fun h => exX_no1 (x := ⟨si, ak, wh, ur, rq, an⟩) h)
  have HN2 := hideB2 (fun h => exX_no2 (x := ⟨si, ak, wh, ur, rq, an⟩) h)
  have HN3 := hideB2 (fun h => exX_no3 (x := ⟨si, ak, wh, ur, rq, an⟩) h)
  have HYY := hideB2 (fun h1 h2 h3 => exX_yes (x := ⟨si, ak, wh, ur, rq, an⟩) h1 h2 h3)
  have HET : Hid (exT ⟨si, ak, wh, ur, rq, an⟩ = ((si == 0 || si == 1) && (timeB ak && timeB wh && decide (ak ≤ wh)))) := rfl
  have HTM := hideB2 (fun n W => l2time_any n W)
  have HRR := hideB2 (fun W => sReadRequest_any rq W z2)
  have HRA := hideB2 (fun m W => sReadAnswer_any an m W z3)
  have HRE := hideB2 (fun c (h : msX false false rq = .error c) => rr_err (x := ⟨si, ak, wh, ur, rq, an⟩) h)
  have HRO := hideB2 (fun q (h : msX false false rq = .ok q) => rr_ok (x := ⟨si, ak, wh, ur, rq, an⟩) h)
  have hb0 := below_a1 w (.cells #[.int .i64 si, .int .i64 ak, .int .i64 wh, .string ur, .string rq, .string an] 24)
  have E0 := Blk.new w #[.int .i64 si, .int .i64 ak, .int .i64 wh, .string ur, .string rq, .string an] 24
  generalize hW0 : w.alloc (.cells #[.int .i64 si, .int .i64 ak, .int .i64 wh, .string ur, .string rq, .string an] 24) = W0 at *
  have n0 : W0.heap.size = w.heap.size + 1 := by rw [← hW0]; simp
  have A1 : Blk (W0.alloc (.cells #[.string ⟨#[]⟩, .string ⟨#[]⟩, .int .i64 0, .string ⟨#[]⟩, .bool false, .slice none 0 0, .string ⟨#[]⟩] 50)) (w.heap.size + 1) #[.string ⟨#[]⟩, .string ⟨#[]⟩, .int .i64 0, .string ⟨#[]⟩, .bool false, .slice none 0 0, .string ⟨#[]⟩] 50 := by rw [← n0]; exact Blk.new W0 _ _
  have E1 := E0.alloc (.cells #[.string ⟨#[]⟩, .string ⟨#[]⟩, .int .i64 0, .string ⟨#[]⟩, .bool false, .slice none 0 0, .string ⟨#[]⟩] 50)
  have hb1 := below_then hb0 (below_a1 W0 (.cells #[.string ⟨#[]⟩, .string ⟨#[]⟩, .int .i64 0, .string ⟨#[]⟩, .bool false, .slice none 0 0, .string ⟨#[]⟩] 50))
  generalize hW1 : W0.alloc (.cells #[.string ⟨#[]⟩, .string ⟨#[]⟩, .int .i64 0, .string ⟨#[]⟩, .bool false, .slice none 0 0, .string ⟨#[]⟩] 50) = W1 at *
  have n1 : W1.heap.size = w.heap.size + 1 + 1 := by rw [← hW1]; simp [n0]
  have A2 : Blk (W1.alloc (.cells #[.string ⟨#[]⟩, .string ⟨#[]⟩, .int .i64 0, .string ⟨#[]⟩, .bool false, .slice none 0 0, .string ⟨#[]⟩] 50)) (w.heap.size + 1 + 1) #[.string ⟨#[]⟩, .string ⟨#[]⟩, .int .i64 0, .string ⟨#[]⟩, .bool false, .slice none 0 0, .string ⟨#[]⟩] 50 := by rw [← n1]; exact Blk.new W1 _ _
  have A1' := A1.alloc (.cells #[.string ⟨#[]⟩, .string ⟨#[]⟩, .int .i64 0, .string ⟨#[]⟩, .bool false, .slice none 0 0, .string ⟨#[]⟩] 50)
  have E2 := E1.alloc (.cells #[.string ⟨#[]⟩, .string ⟨#[]⟩, .int .i64 0, .string ⟨#[]⟩, .bool false, .slice none 0 0, .string ⟨#[]⟩] 50)
  have hb2 := below_then hb1 (below_a1 W1 (.cells #[.string ⟨#[]⟩, .string ⟨#[]⟩, .int .i64 0, .string ⟨#[]⟩, .bool false, .slice none 0 0, .string ⟨#[]⟩] 50))
  have n2 : (W1.alloc (.cells #[.string ⟨#[]⟩, .string ⟨#[]⟩, .int .i64 0, .string ⟨#[]⟩, .bool false, .slice none 0 0, .string ⟨#[]⟩] 50)).heap.size = w.heap.size + 1 + 1 + 1 := by simp [n1]
  have HE := hideB2 E2
  have HA1 := hideB2 A1'
  have HA2 := hideB2 A2
  have HB := hideB2 hb2
  have HSZ := hideB2 n2
  subst hW1
  subst hW0
  clear E0 A1 E1 hb0 hb1 n0 n1 A2 A1' E2 hb2 n2
  go_enter Tryz.func46, Tryz.ntmps46
  go_upto_region 1 with fail
  generalize hW : World.alloc _ (.cells #[.string ⟨#[]⟩, .string ⟨#[]⟩, .int .i64 0, .string ⟨#[]⟩, .bool false, .slice none 0 0, .string ⟨#[]⟩] 50) = W3 at *
  clear hW
  obtain ⟨p0, p1, p2, p3, p4, p5⟩ := HE.out.c6
  go_cut [36] (fun c wc => c = .bool (!exT ⟨si, ak, wh, ur, rq, an⟩) ∧ wc = W3)
  case first =>
    have hn0 : (si != 0) = !(si == 0) := rfl
    have hn1 : (si != 1) = !(si == 1) := rfl
    have hgt : decide (wh < ak) = !decide (ak ≤ wh) := by by_cases h : ak ≤ wh <;> simp [h] <;> omega
    clear HN1 HN2 HN3 HYY HRR HRA HRE HRO HE HA1 HA2 HB HSZ
    cases h0 : (si == 0)
    · cases h1 : (si == 1)
      · rw [h0] at hn0
        rw [h1] at hn1
        simp only [Bool.not_false] at hn0 hn1
        go_wp2_with fail
        go_meet
        exact ⟨by rw [HET.out, h0, h1]; rfl, rfl⟩
      · rw [h0] at hn0
        rw [h1] at hn1
        simp only [Bool.not_false, Bool.not_true] at hn0 hn1
        cases k1 : timeB ak
        · go_wp2_with (go_at_call 68; refine (HTM.out _ _).mono ?_; rintro e w' ⟨rfl, rfl⟩; rw [k1])
          go_meet
          exact ⟨by rw [HET.out]; simp [h0, h1, k1], rfl⟩
        · cases k2 : timeB wh
          · go_wp2_with (go_at_call 68; refine (HTM.out _ _).mono ?_; rintro e w' ⟨rfl, rfl⟩; first | rw [k1] | rw [k2])
            go_meet
            exact ⟨by rw [HET.out]; simp [h0, h1, k1, k2], rfl⟩
          · cases k3 : decide (ak ≤ wh)
            · rw [k3] at hgt
              simp only [Bool.not_false] at hgt
              go_wp2_with (go_at_call 68; refine (HTM.out _ _).mono ?_; rintro e w' ⟨rfl, rfl⟩; first | rw [k1] | rw [k2])
              go_meet
              exact ⟨by rw [HET.out]; simp [h0, h1, k1, k2, k3], rfl⟩
            · rw [k3] at hgt
              simp only [Bool.not_true] at hgt
              go_wp2_with (go_at_call 68; refine (HTM.out _ _).mono ?_; rintro e w' ⟨rfl, rfl⟩; first | rw [k1] | rw [k2])
              go_meet
              exact ⟨by rw [HET.out]; simp [h0, h1, k1, k2, k3], rfl⟩
    · rw [h0] at hn0
      simp only [Bool.not_true] at hn0
      cases h1 : (si == 1)
      all_goals
        cases k1 : timeB ak
        · go_wp2_with (go_at_call 68; refine (HTM.out _ _).mono ?_; rintro e w' ⟨rfl, rfl⟩; rw [k1])
          go_meet
          exact ⟨by rw [HET.out]; simp [h0, h1, k1], rfl⟩
        · cases k2 : timeB wh
          · go_wp2_with (go_at_call 68; refine (HTM.out _ _).mono ?_; rintro e w' ⟨rfl, rfl⟩; first | rw [k1] | rw [k2])
            go_meet
            exact ⟨by rw [HET.out]; simp [h0, h1, k1, k2], rfl⟩
          · cases k3 : decide (ak ≤ wh)
            · rw [k3] at hgt
              simp only [Bool.not_false] at hgt
              go_wp2_with (go_at_call 68; refine (HTM.out _ _).mono ?_; rintro e w' ⟨rfl, rfl⟩; first | rw [k1] | rw [k2])
              go_meet
              exact ⟨by rw [HET.out]; simp [h0, h1, k1, k2, k3], rfl⟩
            · rw [k3] at hgt
              simp only [Bool.not_true] at hgt
              go_wp2_with (go_at_call 68; refine (HTM.out _ _).mono ?_; rintro e w' ⟨rfl, rfl⟩; first | rw [k1] | rw [k2])
              go_meet
              exact ⟨by rw [HET.out]; simp [h0, h1, k1, k2, k3], rfl⟩
  case rest =>
    obtain ⟨rfl, rfl⟩ := hcut
    clear HTM
    cases ht : exT ⟨si, ak, wh, ur, rq, an⟩
    · have hx := HN1.out ht
      simp only [Bool.not_false]
      obtain ⟨a0, a1, a2, a3, a4, a5, a6⟩ := HA1.out.c7
      obtain ⟨f0, f1, f2, f3, f4, f5, f6⟩ := HA1.out.f7
      obtain ⟨b0, b1, b2, b3, b4, b5, b6⟩ := HA2.out.c7
      obtain ⟨g0, g1, g2, g3, g4, g5, g6⟩ := HA2.out.f7
      have hZ1 := hideB2 ((HA1.out.set7 (.string ⟨#[]⟩) (.string ⟨#[]⟩) (.int .i64 0) (.string ⟨#[]⟩) (.bool false) (.slice none 0 0) (.string ⟨#[]⟩)).oth7 (g := w.heap.size + 1 + 1) (by omega) (.string ⟨#[]⟩) (.string ⟨#[]⟩) (.int .i64 0) (.string ⟨#[]⟩) (.bool false) (.slice none 0 0) (.string ⟨#[]⟩))
      have hZ2 := hideB2 ((HA2.out.oth7 (g := w.heap.size + 1) (by omega) (.string ⟨#[]⟩) (.string ⟨#[]⟩) (.int .i64 0) (.string ⟨#[]⟩) (.bool false) (.slice none 0 0) (.string ⟨#[]⟩)).set7 (.string ⟨#[]⟩) (.string ⟨#[]⟩) (.int .i64 0) (.string ⟨#[]⟩) (.bool false) (.slice none 0 0) (.string ⟨#[]⟩))
      have hZB := hideB2 (below_set7 (below_set7 HB.out (show w.heap.size ≤ w.heap.size + 1 by omega) (.string ⟨#[]⟩) (.string ⟨#[]⟩) (.int .i64 0) (.string ⟨#[]⟩) (.bool false) (.slice none 0 0) (.string ⟨#[]⟩)) (show w.heap.size ≤ w.heap.size + 1 + 1 by omega) (.string ⟨#[]⟩) (.string ⟨#[]⟩) (.int .i64 0) (.string ⟨#[]⟩) (.bool false) (.slice none 0 0) (.string ⟨#[]⟩))
      clear HN1 HN2 HN3 HYY HET HRR HRA HRE HRO ht
      go_wp2
      refine bodyPost_ret (results_CCT rfl _ _ _ rfl hZ1.out rfl hZ2.out Tryz.underlying50 Tryz.infoMsg Tryz.infoMsg) rfl ?_
      exact srd_none hx hZB.out
    · simp only [Bool.not_true]
      clear HN1
      cases hm : msX false false rq with
      | error c =>
        have hx := HN2.out (by rw [HRE.out c hm])
        have hcb : (c != 0) = true := by simpa using msX_err hm
        rw [hm] at HRR
        clear HN2 HN3 HYY HET HRA HRE HRO ht hm
        go_wp2_with fail
        refine (HRR.out _).mono ?_
        rintro e w2 ⟨v, rfl, hbuf⟩
        obtain ⟨va, vc, rfl⟩ := hbuf.form
        have hb2 := hbuf.below
        simp only [exM, mgV, mg0, exC, List.length_nil]
        have hl2 := (HA2.out.later hb2).lt
        have hl2a := (HA1.out.later hb2).lt
        obtain ⟨a0, a1, a2, a3, a4, a5, a6⟩ := (HA1.out.later hb2).c7
        obtain ⟨f0, f1, f2, f3, f4, f5, f6⟩ := (HA1.out.later hb2).f7
        obtain ⟨b0, b1, b2, b3, b4, b5, b6⟩ := (HA2.out.later hb2).c7
        obtain ⟨g0, g1, g2, g3, g4, g5, g6⟩ := (HA2.out.later hb2).f7
        have hZ1 := hideB2 ((((HA1.out.later hb2).set7 (.string ⟨#[]⟩) (.string ⟨#[]⟩) (.int .i64 0) (.string ⟨#[]⟩) (.bool false) (.slice none 0 0) (.string ⟨#[]⟩)).oth7 (g := w.heap.size + 1 + 1) (by omega) (.string ⟨#[]⟩) (.string ⟨#[]⟩) (.int .i64 0) (.string ⟨#[]⟩) (.bool false) (.slice none 0 0) (.string ⟨#[]⟩)).alloc (.cells #[.string ⟨#[]⟩, .string ⟨#[]⟩, .int .i64 0, .string ⟨#[]⟩, .bool false, .slice va 0 vc, .string ⟨#[]⟩] 50))
        have hZ2 := hideB2 ((((HA2.out.later hb2).oth7 (g := w.heap.size + 1) (by omega) (.string ⟨#[]⟩) (.string ⟨#[]⟩) (.int .i64 0) (.string ⟨#[]⟩) (.bool false) (.slice none 0 0) (.string ⟨#[]⟩)).set7 (.string ⟨#[]⟩) (.string ⟨#[]⟩) (.int .i64 0) (.string ⟨#[]⟩) (.bool false) (.slice none 0 0) (.string ⟨#[]⟩)).alloc (.cells #[.string ⟨#[]⟩, .string ⟨#[]⟩, .int .i64 0, .string ⟨#[]⟩, .bool false, .slice va 0 vc, .string ⟨#[]⟩] 50))
        have hZB := hideB2 (below_then (below_set7 (below_set7 (below_then HB.out hb2) (show w.heap.size ≤ w.heap.size + 1 by omega) (.string ⟨#[]⟩) (.string ⟨#[]⟩) (.int .i64 0) (.string ⟨#[]⟩) (.bool false) (.slice none 0 0) (.string ⟨#[]⟩)) (show w.heap.size ≤ w.heap.size + 1 + 1 by omega) (.string ⟨#[]⟩) (.string ⟨#[]⟩) (.int .i64 0) (.string ⟨#[]⟩) (.bool false) (.slice none 0 0) (.string ⟨#[]⟩)) (below_a1 _ (.cells #[.string ⟨#[]⟩, .string ⟨#[]⟩, .int .i64 0, .string ⟨#[]⟩, .bool false, .slice va 0 vc, .string ⟨#[]⟩] 50)))
        clear hbuf hb2 p0 p1 p2 p3 p4 p5
        go_wp2
        refine bodyPost_ret (results_CCT rfl _ _ _ rfl hZ1.out rfl hZ2.out Tryz.underlying50 Tryz.infoMsg Tryz.infoMsg) rfl ?_
        exact srd_none hx hZB.out
      | ok q =>
        have hrr := HRO.out q hm
        have hbq := msX_bds hm
        rw [hm] at HRR
        clear HRE HRO hm
        have HCA := hideB2 (fun W => sCanon_any q.ta W (by have := hbq.ta; omega))
        rw [hrr] at HN2 HN3 HYY
        simp only at HN2 HN3 HYY
        have hq1 : ((canB q.ta).toList == ur.toList) = eqB (canB q.ta) ur := rfl
        generalize rdO q.ta = O at *
        generalize canB q.ta = C at *
        have hmh := eqB_head2 (s := q.me)
        obtain ⟨qme, qta, qst, qre, qba, qfs, qbo⟩ := q
        simp only at hmh HN3 HYY
        simp only [exM, mgV, exC] at HRR
        have HRA2 := hideB2 (fun W => HRA.out (eqB qme headW) W)
        clear HRA HET
        rw [hmh] at HRA2
        go_wp2_with fail
        refine (HRR.out _).mono ?_
        rintro e w2 ⟨v, rfl, hbuf⟩
        obtain ⟨qa, qc, rfl⟩ := hbuf.form
        have hb2 := hbuf.below
        have O2 : OwF (w.heap.size + 1 + 1 + 1) w2 (.slice qa qfs.length qc) qfs := by
          have h := (show OwF _ w2 (.slice qa qfs.length qc) qfs from ⟨hbuf.own, hb2.size⟩)
          rw [HSZ.out] at h
          exact h
        have hal := below_a1 w2 (.cells #[.string qme, .string qta, .int .i64 qst, .string qre, .bool qba, .slice qa qfs.length qc, .string qbo] 50)
        have Q4 := Blk.new w2 #[.string qme, .string qta, .int .i64 qst, .string qre, .bool qba, .slice qa qfs.length qc, .string qbo] 50
        have A4 := (HA1.out.later hb2).alloc (.cells #[.string qme, .string qta, .int .i64 qst, .string qre, .bool qba, .slice qa qfs.length qc, .string qbo] 50)
        have B4 := (HA2.out.later hb2).alloc (.cells #[.string qme, .string qta, .int .i64 qst, .string qre, .bool qba, .slice qa qfs.length qc, .string qbo] 50)
        have E4 := (HE.out.later hb2).alloc (.cells #[.string qme, .string qta, .int .i64 qst, .string qre, .bool qba, .slice qa qfs.length qc, .string qbo] 50)
        have O4 := O2.alloc (.cells #[.string qme, .string qta, .int .i64 qst, .string qre, .bool qba, .slice qa qfs.length qc, .string qbo] 50)
        have hB4 := below_then (below_then HB.out hb2) hal
        have hl2 := (HA2.out.later hb2).lt
        obtain ⟨m0, m1, m2, m3, m4, m5, m6⟩ := Q4.c7
        clear p0 p1 p2 p3 p4 p5 hbuf O2 HRR
        go_wp2_with fail
        generalize hW : w2.alloc (.cells #[.string qme, .string qta, .int .i64 qst, .string qre, .bool qba, .slice qa qfs.length qc, .string qbo] 50) = W4 at *
        clear hW hal hb2 m0 m1 m2 m3 m4 m5 m6 HE HA1 HA2 HB HSZ
        generalize w2.heap.size = G at *
        refine (HCA.out _).mono ?_
        rintro e w5 ⟨rfl, hb5⟩
        have Q5 := Q4.later hb5
        have A5 := A4.later hb5
        have B5 := B4.later hb5
        have E5 := E4.later hb5
        have O5 := O4.later hb5
        have hB5 := below_then hB4 hb5
        have hlq5 := Q5.lt
        obtain ⟨m0, m1, m2, m3, m4, m5, m6⟩ := Q5.c7
        obtain ⟨a0, a1, a2, a3, a4, a5, a6⟩ := A5.c7
        obtain ⟨f0, f1, f2, f3, f4, f5, f6⟩ := A5.f7
        obtain ⟨b0, b1, b2, b3, b4, b5, b6⟩ := B5.c7
        obtain ⟨g0, g1, g2, g3, g4, g5, g6⟩ := B5.f7
        obtain ⟨p0, p1, p2, p3, p4, p5⟩ := E5.c6
        have HQ5 := hideB2 Q5
        have HA5 := hideB2 A5
        have HB5 := hideB2 B5
        have HE5 := hideB2 E5
        have HO5 := hideB2 O5
        have HBB5 := hideB2 hB5
        clear Q4 A4 B4 E4 O4 hB4 Q5 A5 B5 E5 O5 hB5 hb5 HCA
        cases O
        · have hx := HN2.out rfl
          have hZ1 := hideB2 ((HA5.out.set7 (.string ⟨#[]⟩) (.string ⟨#[]⟩) (.int .i64 0) (.string ⟨#[]⟩) (.bool false) (.slice none 0 0) (.string ⟨#[]⟩)).oth7 (g := w.heap.size + 1 + 1) (by omega) (.string ⟨#[]⟩) (.string ⟨#[]⟩) (.int .i64 0) (.string ⟨#[]⟩) (.bool false) (.slice none 0 0) (.string ⟨#[]⟩))
          have hZ2 := hideB2 ((HB5.out.oth7 (g := w.heap.size + 1) (by omega) (.string ⟨#[]⟩) (.string ⟨#[]⟩) (.int .i64 0) (.string ⟨#[]⟩) (.bool false) (.slice none 0 0) (.string ⟨#[]⟩)).set7 (.string ⟨#[]⟩) (.string ⟨#[]⟩) (.int .i64 0) (.string ⟨#[]⟩) (.bool false) (.slice none 0 0) (.string ⟨#[]⟩))
          have hZB := hideB2 (below_set7 (below_set7 HBB5.out (show w.heap.size ≤ w.heap.size + 1 by omega) (.string ⟨#[]⟩) (.string ⟨#[]⟩) (.int .i64 0) (.string ⟨#[]⟩) (.bool false) (.slice none 0 0) (.string ⟨#[]⟩)) (show w.heap.size ≤ w.heap.size + 1 + 1 by omega) (.string ⟨#[]⟩) (.string ⟨#[]⟩) (.int .i64 0) (.string ⟨#[]⟩) (.bool false) (.slice none 0 0) (.string ⟨#[]⟩))
          clear HN2 HN3 HYY HRA2 hq1
          go_wp2
          refine bodyPost_ret (results_CCT rfl _ _ _ rfl hZ1.out rfl hZ2.out Tryz.underlying50 Tryz.infoMsg Tryz.infoMsg) rfl ?_
          exact srd_none hx hZB.out
        · cases hcu : eqB C ur
          · have hx := HN2.out (by rw [hcu]; rfl)
            rw [hcu] at hq1
            have hZ1 := hideB2 ((HA5.out.set7 (.string ⟨#[]⟩) (.string ⟨#[]⟩) (.int .i64 0) (.string ⟨#[]⟩) (.bool false) (.slice none 0 0) (.string ⟨#[]⟩)).oth7 (g := w.heap.size + 1 + 1) (by omega) (.string ⟨#[]⟩) (.string ⟨#[]⟩) (.int .i64 0) (.string ⟨#[]⟩) (.bool false) (.slice none 0 0) (.string ⟨#[]⟩))
            have hZ2 := hideB2 ((HB5.out.oth7 (g := w.heap.size + 1) (by omega) (.string ⟨#[]⟩) (.string ⟨#[]⟩) (.int .i64 0) (.string ⟨#[]⟩) (.bool false) (.slice none 0 0) (.string ⟨#[]⟩)).set7 (.string ⟨#[]⟩) (.string ⟨#[]⟩) (.int .i64 0) (.string ⟨#[]⟩) (.bool false) (.slice none 0 0) (.string ⟨#[]⟩))
            have hZB := hideB2 (below_set7 (below_set7 HBB5.out (show w.heap.size ≤ w.heap.size + 1 by omega) (.string ⟨#[]⟩) (.string ⟨#[]⟩) (.int .i64 0) (.string ⟨#[]⟩) (.bool false) (.slice none 0 0) (.string ⟨#[]⟩)) (show w.heap.size ≤ w.heap.size + 1 + 1 by omega) (.string ⟨#[]⟩) (.string ⟨#[]⟩) (.int .i64 0) (.string ⟨#[]⟩) (.bool false) (.slice none 0 0) (.string ⟨#[]⟩))
            clear HN2 HN3 HYY HRA2
            go_wp2
            refine bodyPost_ret (results_CCT rfl _ _ _ rfl hZ1.out rfl hZ2.out Tryz.underlying50 Tryz.infoMsg Tryz.infoMsg) rfl ?_
            exact srd_none hx hZB.out
          · rw [hcu] at HYY
            replace HYY := hideB2 (HYY.out ht (by simp))
            obtain rfl : ur = C := (eqB_iff.1 hcu).symm
            clear HN2 hcu hq1
            cases hm2 : msX true (eqB qme headW) an with
            | error c =>
              have hx := HN3.out (by rw [ra_err (x := ⟨si, ak, wh, ur, rq, an⟩) (me := qme) hm2])
              have hcb : (c != 0) = true := by simpa using msX_err hm2
              rw [hmh] at hm2
              rw [hm2] at HRA2
              clear HN3 HYY hm2 hmh
              go_wp2_with fail
              refine (HRA2.out _).mono ?_
              rintro e w6 ⟨v, rfl, hbuf⟩
              obtain ⟨va, vc, rfl⟩ := hbuf.form
              have hb6 := hbuf.below
              simp only [exM, mgV, mg0, exC, List.length_nil]
              have A6 := (HA5.out.later hb6).alloc (.cells #[.string ⟨#[]⟩, .string ⟨#[]⟩, .int .i64 0, .string ⟨#[]⟩, .bool false, .slice va 0 vc, .string ⟨#[]⟩] 50)
              have B6 := (HB5.out.later hb6).alloc (.cells #[.string ⟨#[]⟩, .string ⟨#[]⟩, .int .i64 0, .string ⟨#[]⟩, .bool false, .slice va 0 vc, .string ⟨#[]⟩] 50)
              have hB6 := below_then (below_then HBB5.out hb6) (below_a1 w6 (.cells #[.string ⟨#[]⟩, .string ⟨#[]⟩, .int .i64 0, .string ⟨#[]⟩, .bool false, .slice va 0 vc, .string ⟨#[]⟩] 50))
              have hl6 := (HB5.out.later hb6).lt
              clear m0 m1 m2 m3 m4 m5 m6 a0 a1 a2 a3 a4 a5 a6 f0 f1 f2 f3 f4 f5 f6 b0 b1 b2 b3 b4 b5 b6 g0 g1 g2 g3 g4 g5 g6 p0 p1 p2 p3 p4 p5 hbuf hb6
              go_wp2
              generalize hW : w6.alloc (.cells #[.string ⟨#[]⟩, .string ⟨#[]⟩, .int .i64 0, .string ⟨#[]⟩, .bool false, .slice va 0 vc, .string ⟨#[]⟩] 50) = W7 at *
              clear hW
              obtain ⟨a0, a1, a2, a3, a4, a5, a6⟩ := A6.c7
              obtain ⟨f0, f1, f2, f3, f4, f5, f6⟩ := A6.f7
              obtain ⟨b0, b1, b2, b3, b4, b5, b6⟩ := B6.c7
              obtain ⟨g0, g1, g2, g3, g4, g5, g6⟩ := B6.f7
              have hZ1 := hideB2 (((A6.set7 (.string ⟨#[]⟩) (.string ⟨#[]⟩) (.int .i64 0) (.string ⟨#[]⟩) (.bool false) (.slice none 0 0) (.string ⟨#[]⟩)).oth7 (g := w.heap.size + 1 + 1) (by omega) (.string ⟨#[]⟩) (.string ⟨#[]⟩) (.int .i64 0) (.string ⟨#[]⟩) (.bool false) (.slice none 0 0) (.string ⟨#[]⟩)).drew)
              have hZ2 := hideB2 (((B6.oth7 (g := w.heap.size + 1) (by omega) (.string ⟨#[]⟩) (.string ⟨#[]⟩) (.int .i64 0) (.string ⟨#[]⟩) (.bool false) (.slice none 0 0) (.string ⟨#[]⟩)).set7 (.string ⟨#[]⟩) (.string ⟨#[]⟩) (.int .i64 0) (.string ⟨#[]⟩) (.bool false) (.slice none 0 0) (.string ⟨#[]⟩)).drew)
              have hZB := hideB2 ((below_set7 (below_set7 hB6 (show w.heap.size ≤ w.heap.size + 1 by omega) (.string ⟨#[]⟩) (.string ⟨#[]⟩) (.int .i64 0) (.string ⟨#[]⟩) (.bool false) (.slice none 0 0) (.string ⟨#[]⟩)) (show w.heap.size ≤ w.heap.size + 1 + 1 by omega) (.string ⟨#[]⟩) (.string ⟨#[]⟩) (.int .i64 0) (.string ⟨#[]⟩) (.bool false) (.slice none 0 0) (.string ⟨#[]⟩)).drew)
              clear A6 B6 hB6
              go_big_region
              go_wp2
              refine bodyPost_ret (results_CCT rfl _ _ _ rfl hZ1.out rfl hZ2.out Tryz.underlying50 Tryz.infoMsg Tryz.infoMsg) rfl ?_
              exact srd_none hx hZB.out
            | ok a =>
              have hra := ra_ok (x := ⟨si, ak, wh, ur, rq, an⟩) (me := qme) hm2
              have hba := msX_bds hm2
              rw [hra] at HN3 HYY
              simp only at HN3 HYY
              rw [hmh] at hm2
              rw [hm2] at HRA2
              obtain ⟨ame, ata, ast, are, aba, afs, abo⟩ := a
              have HWM := hideB2 (fun aa ac W h => sWriteMsg_any ame ata are abo ast aba aa afs.length ac afs W h rfl (Nat.le_trans hba.fs (by decide)) (Nat.le_trans hba.tot (by decide)) (Nat.le_trans hba.me (by decide)) (Nat.le_trans hba.ta (by decide)) (Nat.le_trans hba.re (by decide)) (Nat.le_trans hba.bo (by decide)))
              have hq2 : ((wmsgB ⟨ame, ata, ast, are, aba, afs, abo⟩).toList != an.toList) = !eqB (wmsgB ⟨ame, ata, ast, are, aba, afs, abo⟩) an := rfl
              generalize wmsgB ⟨ame, ata, ast, are, aba, afs, abo⟩ = D at *
              clear hm2 hmh hra hba
              simp only [exM, mgV, exC] at HRA2
              go_wp2_with fail
              refine (HRA2.out _).mono ?_
              rintro e w6 ⟨v, rfl, hbuf⟩
              obtain ⟨aa, ac, rfl⟩ := hbuf.form
              have hb6 := hbuf.below
              have OA6 : OwF (w.heap.size + 1 + 1 + 1) w6 (.slice aa afs.length ac) afs := (show OwF _ w6 (.slice aa afs.length ac) afs from ⟨hbuf.own, hb6.size⟩).base (Nat.le_trans HO5.out.le (Nat.le_refl _))
              have hal := below_a1 w6 (.cells #[.string ame, .string ata, .int .i64 ast, .string are, .bool aba, .slice aa afs.length ac, .string abo] 50)
              have N7 := Blk.new w6 #[.string ame, .string ata, .int .i64 ast, .string are, .bool aba, .slice aa afs.length ac, .string abo] 50
              have Q7 := (HQ5.out.later hb6).alloc (.cells #[.string ame, .string ata, .int .i64 ast, .string are, .bool aba, .slice aa afs.length ac, .string abo] 50)
              have A7 := (HA5.out.later hb6).alloc (.cells #[.string ame, .string ata, .int .i64 ast, .string are, .bool aba, .slice aa afs.length ac, .string abo] 50)
              have B7 := (HB5.out.later hb6).alloc (.cells #[.string ame, .string ata, .int .i64 ast, .string are, .bool aba, .slice aa afs.length ac, .string abo] 50)
              have E7 := (HE5.out.later hb6).alloc (.cells #[.string ame, .string ata, .int .i64 ast, .string are, .bool aba, .slice aa afs.length ac, .string abo] 50)
              have O7 := (HO5.out.later hb6).alloc (.cells #[.string ame, .string ata, .int .i64 ast, .string are, .bool aba, .slice aa afs.length ac, .string abo] 50)
              have P7 := OA6.alloc (.cells #[.string ame, .string ata, .int .i64 ast, .string are, .bool aba, .slice aa afs.length ac, .string abo] 50)
              have hB7 := below_then (below_then HBB5.out hb6) hal
              have hl6 := (HQ5.out.later hb6).lt
              clear m0 m1 m2 m3 m4 m5 m6 a0 a1 a2 a3 a4 a5 a6 f0 f1 f2 f3 f4 f5 f6 b0 b1 b2 b3 b4 b5 b6 g0 g1 g2 g3 g4 g5 g6 p0 p1 p2 p3 p4 p5 hbuf OA6 HRA2
              go_wp2
              generalize hW : w6.alloc (.cells #[.string ame, .string ata, .int .i64 ast, .string are, .bool aba, .slice aa afs.length ac, .string abo] 50) = W7 at *
              clear hW hal hb6
              generalize w6.heap.size = H at *
              obtain ⟨m0, m1, m2, m3, m4, m5, m6⟩ := N7.c7
              have e5 := E7.c6.2.2.2.2.2
              have HN7 := hideB2 N7
              have HQ7 := hideB2 Q7
              have HA7 := hideB2 A7
              have HB7 := hideB2 B7
              have HE7 := hideB2 E7
              have HO7 := hideB2 O7
              have HP7 := hideB2 P7
              have HBB7 := hideB2 hB7
              clear N7 Q7 A7 B7 E7 O7 P7 hB7 HQ5 HA5 HB5 HE5 HO5 HBB5
              have hY := hideB2 (And.intro HN3.out HYY.out)
              clear HN3 HYY
              go_cut [82] (fun c wc => c = .bool (!eqB D an) ∧ Below W7.heap.size W7 wc)
              case first =>
                go_region_held (fun w' => w'.cell? ⟨H, 0, none⟩ = some (.string ame) ∧ w'.cell? ⟨H, 1, none⟩ = some (.string ata) ∧ w'.cell? ⟨H, 2, none⟩ = some (.int .i64 ast) ∧ w'.cell? ⟨H, 3, none⟩ = some (.string are) ∧ w'.cell? ⟨H, 4, none⟩ = some (.bool aba) ∧ w'.cell? ⟨H, 5, none⟩ = some (.slice aa afs.length ac) ∧ w'.cell? ⟨H, 6, none⟩ = some (.string abo) ∧ w'.cell? ⟨w.heap.size, 5, none⟩ = some (.string an)) (go_keep) ((go_at_call 72; refine (HWM.out aa ac _ HP7.out.drew.sl).mono ?_; rintro e w8 ⟨rfl, hb8⟩; obtain ⟨m0', m1', m2', m3', m4', m5', m6'⟩ := (HN7.out.drew.later hb8).c7; have e5' := (HE7.out.drew.later hb8).c6.2.2.2.2.2))
                all_goals
                  go_wp2_with fail
                  go_meet
                  exact ⟨rfl, below_then (Below.refl _ W7).drew hb8⟩
              case rest =>
                obtain ⟨rfl, hb8⟩ := hcut
                have N8 := HN7.out.later hb8
                have Q8 := HQ7.out.later hb8
                have A8 := HA7.out.later hb8
                have B8 := HB7.out.later hb8
                have O8 := HO7.out.later hb8
                have P8 := HP7.out.later hb8
                have hB8 := below_then HBB7.out hb8
                clear m0 m1 m2 m3 m4 m5 m6 e5 HN7 HQ7 HA7 HB7 HE7 HO7 HP7 HBB7 HWM hq2
                obtain ⟨a0, a1, a2, a3, a4, a5, a6⟩ := A8.c7
                obtain ⟨f0, f1, f2, f3, f4, f5, f6⟩ := A8.f7
                obtain ⟨b0, b1, b2, b3, b4, b5, b6⟩ := B8.c7
                obtain ⟨g0, g1, g2, g3, g4, g5, g6⟩ := B8.f7
                cases hda : eqB D an
                · have hx := hY.out.1 hda
                  simp only [Bool.not_false]
                  have hZ1 := hideB2 ((A8.set7 (.string ⟨#[]⟩) (.string ⟨#[]⟩) (.int .i64 0) (.string ⟨#[]⟩) (.bool false) (.slice none 0 0) (.string ⟨#[]⟩)).oth7 (g := w.heap.size + 1 + 1) (by omega) (.string ⟨#[]⟩) (.string ⟨#[]⟩) (.int .i64 0) (.string ⟨#[]⟩) (.bool false) (.slice none 0 0) (.string ⟨#[]⟩))
                  have hZ2 := hideB2 ((B8.oth7 (g := w.heap.size + 1) (by omega) (.string ⟨#[]⟩) (.string ⟨#[]⟩) (.int .i64 0) (.string ⟨#[]⟩) (.bool false) (.slice none 0 0) (.string ⟨#[]⟩)).set7 (.string ⟨#[]⟩) (.string ⟨#[]⟩) (.int .i64 0) (.string ⟨#[]⟩) (.bool false) (.slice none 0 0) (.string ⟨#[]⟩))
                  have hZB := hideB2 (below_set7 (below_set7 hB8 (show w.heap.size ≤ w.heap.size + 1 by omega) (.string ⟨#[]⟩) (.string ⟨#[]⟩) (.int .i64 0) (.string ⟨#[]⟩) (.bool false) (.slice none 0 0) (.string ⟨#[]⟩)) (show w.heap.size ≤ w.heap.size + 1 + 1 by omega) (.string ⟨#[]⟩) (.string ⟨#[]⟩) (.int .i64 0) (.string ⟨#[]⟩) (.bool false) (.slice none 0 0) (.string ⟨#[]⟩))
                  clear hY
                  go_wp2
                  refine bodyPost_ret (results_CCT rfl _ _ _ rfl hZ1.out rfl hZ2.out Tryz.underlying50 Tryz.infoMsg Tryz.infoMsg) rfl ?_
                  exact srd_none hx hZB.out
                · have hx := hY.out.2 hda
                  simp only [Bool.not_true]
                  obtain ⟨m0, m1, m2, m3, m4, m5, m6⟩ := N8.c7
                  obtain ⟨k0, k1, k2, k3, k4, k5, k6⟩ := Q8.c7
                  have hZ1 := hideB2 (((A8.set7 (.string qme) (.string qta) (.int .i64 qst) (.string qre) (.bool qba) (.slice qa qfs.length qc) (.string qbo)).oth7 (g := w.heap.size + 1 + 1) (by omega) (.string ame) (.string ata) (.int .i64 ast) (.string are) (.bool aba) (.slice aa afs.length ac) (.string abo)).drew)
                  have hZ2 := hideB2 (((B8.oth7 (g := w.heap.size + 1) (by omega) (.string qme) (.string qta) (.int .i64 qst) (.string qre) (.bool qba) (.slice qa qfs.length qc) (.string qbo)).set7 (.string ame) (.string ata) (.int .i64 ast) (.string are) (.bool aba) (.slice aa afs.length ac) (.string abo)).drew)
                  have hZB := hideB2 ((below_set7 (below_set7 hB8 (show w.heap.size ≤ w.heap.size + 1 by omega) (.string qme) (.string qta) (.int .i64 qst) (.string qre) (.bool qba) (.slice qa qfs.length qc) (.string qbo)) (show w.heap.size ≤ w.heap.size + 1 + 1 by omega) (.string ame) (.string ata) (.int .i64 ast) (.string are) (.bool aba) (.slice aa afs.length ac) (.string abo)).drew)
                  have hO9 := hideB2 ((((O8.set7 (g := w.heap.size + 1) (by omega) (.string qme) (.string qta) (.int .i64 qst) (.string qre) (.bool qba) (.slice qa qfs.length qc) (.string qbo)).set7 (g := w.heap.size + 1 + 1) (by omega) (.string ame) (.string ata) (.int .i64 ast) (.string are) (.bool aba) (.slice aa afs.length ac) (.string abo)).drew).base (show w.heap.size ≤ w.heap.size + 1 + 1 + 1 by omega))
                  have hP9 := hideB2 ((((P8.set7 (g := w.heap.size + 1) (by omega) (.string qme) (.string qta) (.int .i64 qst) (.string qre) (.bool qba) (.slice qa qfs.length qc) (.string qbo)).set7 (g := w.heap.size + 1 + 1) (by omega) (.string ame) (.string ata) (.int .i64 ast) (.string are) (.bool aba) (.slice aa afs.length ac) (.string abo)).drew).base (show w.heap.size ≤ w.heap.size + 1 + 1 + 1 by omega))
                  clear hY A8 B8 N8 Q8 O8 P8 hB8
                  go_wp2
                  go_big_region
                  go_wp2
                  refine bodyPost_ret (results_CCT rfl _ _ _ rfl hZ1.out rfl hZ2.out Tryz.underlying50 Tryz.infoMsg Tryz.infoMsg) rfl ⟨.slice qa qfs.length qc, .slice aa afs.length ac, ?_, ?_, ?_, hZB.out⟩
                  · rw [(reqX_some hx).1, (reqX_some hx).2, hx]; rfl
                  · rw [(reqX_some hx).1]; exact hO9.out
                  · rw [(reqX_some hx).2]; exact hP9.out
end Go.Proofs.YthdgeepedofleaaGreatDoor
namespace Go.Proofs.YthdgeepedofleaaGreatDoor
set_option linter.unusedVariables false
set_option linter.unusedSimpArgs false
open Go.RowKit
set_option maxRecDepth 100000 in
set_option maxHeartbeats 4000000 in
theorem sRequestOf_any (x : Ex) (w : World) (z1 : x.ur.size ≤ 1048576) (z2 : x.rq.size ≤ 1048576) (z3 : x.an.size ≤ 1048576) :
    Calls Tryz.prog 26 #[exV x] w fun e w' => ∃ v, e = .returned (mgV (reqX x) v) ∧ BufF w w' v (reqX x).fs := by
  obtain ⟨si, ak, wh, ur, rq, an⟩ := x
  simp only at z1 z2 z3
  unfold exV exC6
  simp only
  have hb0 := below_a1 w (.cells #[.int .i64 si, .int .i64 ak, .int .i64 wh, .string ur, .string rq, .string an] 24)
  generalize hW0 : w.alloc (.cells #[.int .i64 si, .int .i64 ak, .int .i64 wh, .string ur, .string rq, .string an] 24) = W0 at *
  have n0 : W0.heap.size = w.heap.size + 1 := by rw [← hW0]; simp
  have A1 : Blk (W0.alloc (.cells #[.string ⟨#[]⟩, .string ⟨#[]⟩, .int .i64 0, .string ⟨#[]⟩, .bool false, .slice none 0 0, .string ⟨#[]⟩] 50)) (w.heap.size + 1) #[.string ⟨#[]⟩, .string ⟨#[]⟩, .int .i64 0, .string ⟨#[]⟩, .bool false, .slice none 0 0, .string ⟨#[]⟩] 50 := by rw [← n0]; exact Blk.new W0 _ _
  have hb1 := below_then hb0 (below_a1 W0 (.cells #[.string ⟨#[]⟩, .string ⟨#[]⟩, .int .i64 0, .string ⟨#[]⟩, .bool false, .slice none 0 0, .string ⟨#[]⟩] 50))
  have n1 : (W0.alloc (.cells #[.string ⟨#[]⟩, .string ⟨#[]⟩, .int .i64 0, .string ⟨#[]⟩, .bool false, .slice none 0 0, .string ⟨#[]⟩] 50)).heap.size = w.heap.size + 1 + 1 := by simp [n0]
  have HA := hideB2 A1
  have HB := hideB2 hb1
  have HN := hideB2 n1
  subst hW0
  clear hb0 n0 A1 hb1 n1
  have HR := hideB2 (fun W => l10read_any si ak wh ur rq an W z2 z3)
  simp only [srdPost, mgV] at HR ⊢
  clear z1 z2 z3
  generalize (exX ⟨si, ak, wh, ur, rq, an⟩).isSome = O at *
  generalize reqX ⟨si, ak, wh, ur, rq, an⟩ = q at *
  generalize ansX ⟨si, ak, wh, ur, rq, an⟩ = a at *
  obtain ⟨qme, qta, qst, qre, qba, qfs, qbo⟩ := q
  obtain ⟨ame, ata, ast, are, aba, afs, abo⟩ := a
  simp only at HR ⊢
  go_enter Tryz.func26, Tryz.ntmps26
  go_wp2_with fail
  refine (HR.out _).mono ?_
  rintro e w2 ⟨v1, v2, rfl, ho1, ho2, hb2⟩
  obtain ⟨qa, qc, rfl⟩ := ho1.form
  obtain ⟨aa, ac, rfl⟩ := ho2.form
  rw [HN.out] at ho1 ho2
  have Q4 := (Blk.new w2 #[.string qme, .string qta, .int .i64 qst, .string qre, .bool qba, .slice qa qfs.length qc, .string qbo] 50).alloc (.cells #[.string ame, .string ata, .int .i64 ast, .string are, .bool aba, .slice aa afs.length ac, .string abo] 50)
  have N4 : Blk ((w2.alloc (.cells #[.string qme, .string qta, .int .i64 qst, .string qre, .bool qba, .slice qa qfs.length qc, .string qbo] 50)).alloc (.cells #[.string ame, .string ata, .int .i64 ast, .string are, .bool aba, .slice aa afs.length ac, .string abo] 50)) (w2.heap.size + 1) #[.string ame, .string ata, .int .i64 ast, .string are, .bool aba, .slice aa afs.length ac, .string abo] 50 := by
    have := Blk.new (w2.alloc (.cells #[.string qme, .string qta, .int .i64 qst, .string qre, .bool qba, .slice qa qfs.length qc, .string qbo] 50)) #[.string ame, .string ata, .int .i64 ast, .string are, .bool aba, .slice aa afs.length ac, .string abo] 50
    simpa using this
  have A4 := ((HA.out.later hb2).alloc (.cells #[.string qme, .string qta, .int .i64 qst, .string qre, .bool qba, .slice qa qfs.length qc, .string qbo] 50)).alloc (.cells #[.string ame, .string ata, .int .i64 ast, .string are, .bool aba, .slice aa afs.length ac, .string abo] 50)
  have O4 := (ho1.alloc (.cells #[.string qme, .string qta, .int .i64 qst, .string qre, .bool qba, .slice qa qfs.length qc, .string qbo] 50)).alloc (.cells #[.string ame, .string ata, .int .i64 ast, .string are, .bool aba, .slice aa afs.length ac, .string abo] 50)
  have hB4 := below_then (below_then HB.out hb2) (below_a2 w2 (.cells #[.string qme, .string qta, .int .i64 qst, .string qre, .bool qba, .slice qa qfs.length qc, .string qbo] 50) (.cells #[.string ame, .string ata, .int .i64 ast, .string are, .bool aba, .slice aa afs.length ac, .string abo] 50))
  have hl2 := (HA.out.later hb2).lt
  clear ho1 ho2 hb2
  go_upto_region 2 with fail
  generalize hW : (w2.alloc (.cells #[.string qme, .string qta, .int .i64 qst, .string qre, .bool qba, .slice qa qfs.length qc, .string qbo] 50)).alloc (.cells #[.string ame, .string ata, .int .i64 ast, .string are, .bool aba, .slice aa afs.length ac, .string abo] 50) = W4 at *
  clear hW
  obtain ⟨m0, m1, m2, m3, m4, m5, m6⟩ := Q4.c7
  obtain ⟨a0, a1, a2, a3, a4, a5, a6⟩ := A4.c7
  obtain ⟨f0, f1, f2, f3, f4, f5, f6⟩ := A4.f7
  have hA7 := hideB2 (A4.set7 (.string qme) (.string qta) (.int .i64 qst) (.string qre) (.bool qba) (.slice qa qfs.length qc) (.string qbo))
  have hO7 := hideB2 ((O4.set7 (g := w.heap.size + 1) (by omega) (.string qme) (.string qta) (.int .i64 qst) (.string qre) (.bool qba) (.slice qa qfs.length qc) (.string qbo)).buf (w0 := w) (by omega) (below_set7 hB4 (show w.heap.size ≤ w.heap.size + 1 by omega) (.string qme) (.string qta) (.int .i64 qst) (.string qre) (.bool qba) (.slice qa qfs.length qc) (.string qbo)))
  clear Q4 N4 A4 O4 hB4
  go_wp2
  refine bodyPost_ret (results_cellS rfl _ _ _ rfl hA7.out Tryz.underlying50 Tryz.infoMsg) rfl ⟨(.slice qa qfs.length qc), ?_, hO7.out⟩
  rfl
end Go.Proofs.YthdgeepedofleaaGreatDoor
