/-
  The drawing functions of chapter 5: a name, a field.
-/
import Derived.Test.YtbdggopdhnlbfaaDoorBK2
import Derived.Test.YtbdggopdhnlbfaaDoorF1
import Derived.Test.YtbdggopdhnlbfaaDoorWD4
namespace Go.Proofs.YtbdggopdhnlbfaaDoor
set_option linter.unusedVariables false
set_option linter.unusedSimpArgs false
open Go.RowKit
theorem blk_kp {p : Nat} {w w' : World} {b : Nat} {c : Array Value} {t : TypeId} (h : Blk w b c t) (k : Kp p w w') (hne : b ≠ p) : Blk w' b c t := by
  unfold Blk at *
  rw [k.block b (Array.getElem?_eq_some_iff.1 h).1 (fun e => by injection e with e; exact hne e)]
  exact h
theorem kp_of_alloc (p : Nat) (w : World) (o : Obj) : Kp p w (w.alloc o) := World.grownBy_alloc w o _
theorem kp_set2 {p g : Nat} {a w : World} (h : Kp p a w) (hg : a.heap.size ≤ g) (x y : Value) : Kp p a ((w.setCell ⟨g, 0, none⟩ x).setCell ⟨g, 1, none⟩ y) := (h.setNew hg 0 x).setNew hg 1 y
theorem drw_set22 {p g : Nat} {w : World} (h : Drw w p) (hg : p < g) (x y : Value) : Drw ((w.setCell ⟨g, 0, none⟩ x).setCell ⟨g, 1, none⟩ y) p := (h.setNew hg 0 x).setNew hg 1 y
theorem Tryd.infoFd : (Tryd.prog.info? 49).map (·.size) = some 2 := by kernel_rfl
theorem str_size {l : List UInt8} {n : Nat} (h : l.length ≤ n) : (ByteArray.mk l.toArray).size ≤ n := by show l.toArray.size ≤ n; simpa using h
set_option maxHeartbeats 2000000 in
theorem l5name_any (p : Nat) (w : World) (hd : Drw w p) :
    Calls Tryd.prog 98 #[.pointer (some ⟨p, 0, none⟩)] w fun e w' => (∃ s : ByteArray, s.size ≤ 10 ∧ e = .returned (.string s)) ∧ Kp p w w' ∧ Drw w' p := by
  go_enter Tryd.func98, Tryd.ntmps98
  go_wp2_with fail
  refine (l1Below_any p 9 _ hd (by omega)).mono ?_
  rintro e w1 ⟨⟨n, hn, _, _, rfl⟩, hk1, hd1⟩
  have hn9 : n < 9 := by have := hn (by omega); omega
  clear hn
  have hc : n = 0 ∨ n = 1 ∨ n = 2 ∨ n = 3 ∨ n = 4 ∨ n = 5 ∨ n = 6 ∨ (7 ≤ n ∧ n < 9) := by omega
  rcases hc with rfl | rfl | rfl | rfl | rfl | rfl | rfl | ⟨h7, h9⟩
  case inr.inr.inr.inr.inr.inr.inr =>
    have g0 : ((n : Int) == 0) = false := by rw [beq_eq_false_iff_ne]; omega
    have g1 : ((n : Int) == 1) = false := by rw [beq_eq_false_iff_ne]; omega
    have g2 : ((n : Int) == 2) = false := by rw [beq_eq_false_iff_ne]; omega
    have g3 : ((n : Int) == 3) = false := by rw [beq_eq_false_iff_ne]; omega
    have g4 : ((n : Int) == 4) = false := by rw [beq_eq_false_iff_ne]; omega
    have g5 : ((n : Int) == 5) = false := by rw [beq_eq_false_iff_ne]; omega
    have g6 : ((n : Int) == 6) = false := by rw [beq_eq_false_iff_ne]; omega
    go_wp2_with fail
    refine (l1Below_any p 4 _ hd1 (by omega)).mono ?_
    rintro e w2 ⟨⟨m, hm, _, _, rfl⟩, hk2, hd2⟩
    have hm4 : m < 4 := by have := hm (by omega); omega
    have e1 : IntKind.i64.wrap (1 + (m : Int)) = ((m + 1 : Nat) : Int) := by rw [IntKind.wrap_i64]; omega
    clear hm g0 g1 g2 g3 g4 g5 g6
    go_wp2_with fail
    have e2 : (1 : Int) + (m : Int) = ((m + 1 : Nat) : Int) := by omega
    first | rw [e2] | skip
    refine (l1of_any p (m + 1) _ _ hd2 (by omega) (by decide) (by decide)).mono ?_
    rintro e w3 ⟨⟨l, hl, _, rfl⟩, hk3, hd3⟩
    have HS := hideB2 (str_size (n := 10) (l := l) (by omega))
    have HK := hideB2 ((hk1.trans hk2).trans hk3)
    have HD := hideB2 hd3
    generalize ByteArray.mk l.toArray = s at *
    clear hl hk1 hk2 hk3 hd1 hd2 hd3 hd
    go_wp2
    go_ret
    exact ⟨⟨s, HS.out, rfl⟩, HK.out, HD.out⟩
  all_goals
    go_wp2
    go_ret
    exact ⟨⟨_, by decide, rfl⟩, hk1, hd1⟩
set_option maxHeartbeats 4000000 in
theorem l5field_any (p : Nat) (w : World) (hd : Drw w p) :
    Calls Tryd.prog 75 #[.pointer (some ⟨p, 0, none⟩)] w fun e w' => (∃ d s : ByteArray, d.size ≤ 10 ∧ s.size ≤ 40 ∧ e = .returned (.agg #[.string d, .string s])) ∧ Kp p w w' ∧ Drw w' p := by
  have hp := hd.lt
  have R0 := Blk.new w #[.string ⟨#[]⟩, .string ⟨#[]⟩] 49
  have K0 := kp_of_alloc p w (.cells #[.string ⟨#[]⟩, .string ⟨#[]⟩] 49)
  have hd0 := hd.alloc (.cells #[.string ⟨#[]⟩, .string ⟨#[]⟩] 49)
  go_enter Tryd.func75, Tryd.ntmps75
  go_wp2_with fail
  generalize w.alloc (.cells #[.string ⟨#[]⟩, .string ⟨#[]⟩] 49) = W0 at *
  refine (l5name_any p _ hd0).mono ?_
  rintro e w1 ⟨⟨d, hds, rfl⟩, hk1, hd1⟩
  go_wp2_with fail
  refine (l1Below_any p 6 _ hd1 (by omega)).mono ?_
  rintro e w2 ⟨⟨n, hn, _, _, rfl⟩, hk2, hd2⟩
  have hn6 : n < 6 := by have := hn (by omega); omega
  clear hn
  go_wp2_with fail
  refine (l1of_any p n _ _ hd2 (by omega) (by decide) (by decide)).mono ?_
  rintro e w3 ⟨⟨l, hl, _, rfl⟩, hk3, hd3⟩
  have hls := str_size (n := 5) (l := l) (by omega)
  generalize ByteArray.mk l.toArray = s at *
  clear hl
  go_wp2_with fail
  refine (l1Below_any p 4 _ hd3 (by omega)).mono ?_
  rintro e w4 ⟨⟨m, hm, _, _, rfl⟩, hk4, hd4⟩
  have hm4 : m < 4 := by have := hm (by omega); omega
  have hk := (((K0.trans hk1).trans hk2).trans hk3).trans hk4
  have R4 := blk_kp (blk_kp (blk_kp (blk_kp R0 hk1 (by omega)) hk2 (by omega)) hk3 (by omega)) hk4 (by omega)
  clear hm hk1 hk2 hk3 hk4 hd hd0 hd1 hd2 hd3 R0 K0
  obtain ⟨r0, r1⟩ := R4.c2
  have f0 := R4.free 0
  have f1 := R4.free 1
  have hc : m = 0 ∨ m = 1 ∨ (2 ≤ m ∧ m < 4) := by omega
  rcases hc with rfl | rfl | ⟨h2, h3⟩
  · have HR := hideB2 R4
    have HK := hideB2 hk
    have HD := hideB2 hd4
    clear R4 hk hd4
    go_wp2
    refine bodyPost_ret (results_cellS rfl _ _ _ rfl (HR.out.set2 _ _) Tryd.underlying49 Tryd.infoFd) rfl ⟨⟨_, _, hds, by decide, rfl⟩, kp_set2 HK.out (Nat.le_refl _) _ _, drw_set22 HD.out hp _ _⟩
  · clear r0 r1 f0 f1
    go_wp2_with fail
    refine (l1of_any p 1 _ _ hd4 (by omega) (by decide) (by decide)).mono ?_
    rintro e w5 ⟨⟨l1, hl1, _, rfl⟩, hk5, hd5⟩
    have hs1 := str_size (n := 1) (l := l1) (by omega)
    generalize ByteArray.mk l1.toArray = s1 at *
    clear hl1
    go_wp2_with fail
    refine (l1Below_any p 8 _ hd5 (by omega)).mono ?_
    rintro e w6 ⟨⟨q, hq, _, _, rfl⟩, hk6, hd6⟩
    have hq8 : q < 8 := by have := hq (by omega); omega
    clear hq
    go_wp2_with fail
    refine (l1of_any p q _ _ hd6 (by omega) (by decide) (by decide)).mono ?_
    rintro e w7 ⟨⟨l2, hl2, _, rfl⟩, hk7, hd7⟩
    have hs2 := str_size (n := 8) (l := l2) (by omega)
    generalize ByteArray.mk l2.toArray = s2 at *
    clear hl2
    go_wp2_with fail
    refine (l1of_any p 1 _ _ hd7 (by omega) (by decide) (by decide)).mono ?_
    rintro e w8 ⟨⟨l3, hl3, _, rfl⟩, hk8, hd8⟩
    have hs3 := str_size (n := 1) (l := l3) (by omega)
    generalize ByteArray.mk l3.toArray = s3 at *
    clear hl3
    have R8 := blk_kp (blk_kp (blk_kp (blk_kp R4 hk5 (by omega)) hk6 (by omega)) hk7 (by omega)) hk8 (by omega)
    obtain ⟨r0, r1⟩ := R8.c2
    have f0 := R8.free 0
    have f1 := R8.free 1
    have HR := hideB2 R8
    have HK := hideB2 ((((hk.trans hk5).trans hk6).trans hk7).trans hk8)
    have HD := hideB2 hd8
    clear R4 R8 hk hk5 hk6 hk7 hk8 hd4 hd5 hd6 hd7 hd8
    go_wp2
    refine bodyPost_ret (results_cellS rfl _ _ _ rfl (HR.out.set2 _ _) Tryd.underlying49 Tryd.infoFd) rfl ⟨⟨_, _, hds, by rw [ByteArray.size_append, ByteArray.size_append]; omega, rfl⟩, kp_set2 HK.out (Nat.le_refl _) _ _, drw_set22 HD.out hp _ _⟩
  · have g0 : ((m : Int) == 0) = false := by rw [beq_eq_false_iff_ne]; omega
    have g1 : ((m : Int) == 1) = false := by rw [beq_eq_false_iff_ne]; omega
    have HR := hideB2 R4
    have HK := hideB2 hk
    have HD := hideB2 hd4
    clear R4 hk hd4
    go_wp2
    refine bodyPost_ret (results_cellS rfl _ _ _ rfl (HR.out.set2 _ _) Tryd.underlying49 Tryd.infoFd) rfl ⟨⟨_, _, hds, by omega, rfl⟩, kp_set2 HK.out (Nat.le_refl _) _ _, drw_set22 HD.out hp _ _⟩
end Go.Proofs.YtbdggopdhnlbfaaDoor
