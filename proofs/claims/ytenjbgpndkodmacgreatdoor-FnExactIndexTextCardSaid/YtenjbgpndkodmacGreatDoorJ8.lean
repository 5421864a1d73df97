/-
  Chapter 9: which of two lines is ahead; both sides. · Chapter 7: an address read off its place in the index; the program's side. · Chapter 7: an address read off its place in the index; the specification's side. · The class of grown worlds (GR), beside the calendar's walks. · The walks over chapter 2: small texts of impl. · The walks over chapter 2: clockText, blankedDay, shortDay of impl. · The walks over chapter 2: the five texts of impl. · The walks over chapter 2: spec.CivilOk. · The walks over chapter 2: spec's SecondsOf, CivilOf, Weekday. · The walks over chapter 2: the texts of spec. · The walks over chapter 2: what impl reads of a text. · The walks over chapter 2: the parts of a text, as impl reads them. · The walks over chapter 2: impl.timeWritten. · The walks over chapter 2: impl.ReadWarcDate, ReadStamp. · The walks over chapter 2: spec.LineDate.
-/
import Derived.Test.YtenjbgpndkodmacGreatDoorJ0
import Derived.Test.YtenjbgpndkodmacGreatDoorJ1
import Derived.Test.YtenjbgpndkodmacGreatDoorJ7
import Derived.OwnWalk
import Derived.Laws.OwnMore
import Derived.Test.YtenjbgpndkodmacGreatDoorJ3
import Derived.Test.YtenjbgpndkodmacGreatDoorJ2
import Derived.Deep.RegionWith
import Derived.BigRegion
import Derived.Deep.DeepCutAuto
namespace Go.Proofs.YtenjbgpndkodmacGreatDoor
set_option linter.unusedVariables false
set_option linter.unusedSimpArgs false
open Go.RowKit
theorem not_lt_self (n : Int) : (n != n) = false := by simp
set_option maxRecDepth 100000 in
theorem nanI_any (n : Int) (w : World) : Calls Tryz.prog 73 #[.int .i64 n] w fun e w' => e = .returned (.bool false) ∧ w' = w := by
  go_enter Tryz.func73, Tryz.ntmps73
  go_wp2
  go_ret
  exact ⟨rfl, rfl⟩
set_option maxRecDepth 100000 in
theorem nanS_any (s : ByteArray) (w : World) : Calls Tryz.prog 74 #[.string s] w fun e w' => e = .returned (.bool false) ∧ w' = w := by
  have h : (s.toList == s.toList) = true := by simp
  go_enter Tryz.func74, Tryz.ntmps74
  go_wp2
  go_ret
  exact ⟨rfl, rfl⟩
set_option maxRecDepth 100000 in
theorem CompareI_any (a b : Int) (w : World) : Calls Tryz.prog 51 #[.int .i64 a, .int .i64 b] w fun e w' => e = .returned (.int .i64 (sgn3 a b)) ∧ w' = w := by
  rcases sgn3_cases a b with ⟨e, h⟩ | ⟨e, h⟩ | ⟨e, h⟩
  all_goals
    rw [e]
    have HE := hideB2 e
    clear e
    try subst h
    go_enter Tryz.func51, Tryz.ntmps51
    go_wp2_with (go_at_call 73; refine (nanI_any _ _).mono ?_; rintro e w' ⟨rfl, rfl⟩)
    go_ret
    exact ⟨rfl, rfl⟩
set_option maxRecDepth 100000 in
theorem CompareS_any (a b : ByteArray) (w : World) : Calls Tryz.prog 52 #[.string a, .string b] w fun e w' => e = .returned (.int .i64 (kes a b)) ∧ w' = w := by
  rcases kes_cases a b with ⟨e, h⟩ | ⟨e, h⟩ | ⟨e, h⟩
  · rw [e]
    have HE := hideB2 e
    clear e
    go_enter Tryz.func52, Tryz.ntmps52
    go_wp2_with (go_at_call 74; refine (nanS_any _ _).mono ?_; rintro e w' ⟨rfl, rfl⟩)
    go_ret
    exact ⟨rfl, rfl⟩
  · rw [e]
    have HE := hideB2 e
    have h2 := bl_asym h
    have h3 : (a.toList == b.toList) = false := by
      cases h4 : (a.toList == b.toList)
      · rfl
      · rw [eq_of_beq h4, bl_irr] at h; cases h
    clear e
    go_enter Tryz.func52, Tryz.ntmps52
    go_wp2_with (go_at_call 74; refine (nanS_any _ _).mono ?_; rintro e w' ⟨rfl, rfl⟩)
    go_ret
    exact ⟨rfl, rfl⟩
  · rw [e]
    subst h
    have HE := hideB2 e
    have h2 := bl_irr a.toList
    have h3 : (a.toList == a.toList) = true := by simp
    clear e
    go_enter Tryz.func52, Tryz.ntmps52
    go_wp2_with (go_at_call 74; refine (nanS_any _ _).mono ?_; rintro e w' ⟨rfl, rfl⟩)
    go_ret
    exact ⟨rfl, rfl⟩
set_option maxRecDepth 100000 in
set_option maxHeartbeats 1000000 in
theorem compareKey_any (x : Lx) (key : ByteArray) (w : World) :
    Calls Tryz.prog 34 #[lxV x, .string key] w fun e w' => e = .returned (.int .i64 (kes x.ke key)) ∧ Below w.heap.size w w' := by
  obtain ⟨ke, ti, si, me, st, la, rv, se, wh, sz⟩ := x
  unfold lxV
  simp only
  have HC := hideB2 (fun W => CompareS_any ke key W)
  generalize kes ke key = r at *
  go_enter Tryz.func34, Tryz.ntmps34
  go_wp2_with (go_at_call 52; refine (HC.out _).mono ?_; rintro e w' ⟨rfl, rfl⟩)
  go_ret
  exact ⟨rfl, below_a1 w _⟩
set_option maxRecDepth 100000 in
set_option maxHeartbeats 1000000 in
theorem Or4_any (a b c d : Int) (g : Nat) (w : World) (hb : Blk w g #[.int .i64 a, .int .i64 b, .int .i64 c, .int .i64 d] 3) :
    Calls Tryz.prog 50 #[.slice (some ⟨g, 0, none⟩) 4 4] w fun e w' => e = .returned (.int .i64 (or4 a b c d)) ∧ w' = w := by
  have p0 := hb.cell 0
  have p1 := hb.cell 1
  have p2 := hb.cell 2
  have p3 := hb.cell 3
  simp only [List.getElem?_toArray, List.getElem?_cons_zero, List.getElem?_cons_succ] at p0 p1 p2 p3
  unfold or4
  clear hb
  go_enter Tryz.func50, Tryz.ntmps50
  go_wp2
  go_loopw [8] (fun i wr => wr = w ∧ ((i = .int .i64 0) ∨ (i = .int .i64 1 ∧ a = 0) ∨ (i = .int .i64 2 ∧ a = 0 ∧ b = 0) ∨ (i = .int .i64 3 ∧ a = 0 ∧ b = 0 ∧ c = 0) ∨ (i = .int .i64 4 ∧ a = 0 ∧ b = 0 ∧ c = 0 ∧ d = 0))) (fun i _ => 4 - (intOf i).toNat)
  case atStart => exact ⟨rfl, .inl rfl⟩
  case round =>
    obtain ⟨rfl, hr⟩ := hrel
    rcases hr with rfl | ⟨rfl, ha⟩ | ⟨rfl, ha, hb⟩ | ⟨rfl, ha, hb, hc⟩ | ⟨rfl, ha, hb, hc, hd⟩
    · by_cases h : a = 0
      · go_wp2
        exact ⟨⟨by trivial, .inr (.inl ⟨by go_num, h⟩)⟩, by simp [intOf]⟩
      · have hn : (a != 0) = true := by simpa using h
        go_wp2
        go_ret
        exact ⟨ret_int (by first | rfl | simp [*]), rfl⟩
    · have H1 := hideB2 ha
      by_cases h : b = 0
      · go_wp2
        exact ⟨⟨by trivial, .inr (.inr (.inl ⟨by go_num, H1.out, h⟩))⟩, by simp [intOf]⟩
      · have hn : (b != 0) = true := by simpa using h
        go_wp2
        go_ret
        exact ⟨ret_int (by first | rfl | simp [H1.out] | simp [H1.out, H2.out] | simp [H1.out, H2.out, H3.out] | simp [H1.out, H2.out, H3.out, H4.out]), rfl⟩
    · have H1 := hideB2 ha
      have H2 := hideB2 hb
      by_cases h : c = 0
      · go_wp2
        exact ⟨⟨by trivial, .inr (.inr (.inr (.inl ⟨by go_num, H1.out, H2.out, h⟩)))⟩, by simp [intOf]⟩
      · have hn : (c != 0) = true := by simpa using h
        go_wp2
        go_ret
        exact ⟨ret_int (by first | rfl | simp [H1.out] | simp [H1.out, H2.out] | simp [H1.out, H2.out, H3.out] | simp [H1.out, H2.out, H3.out, H4.out]), rfl⟩
    · have H1 := hideB2 ha
      have H2 := hideB2 hb
      have H3 := hideB2 hc
      by_cases h : d = 0
      · go_wp2
        exact ⟨⟨by trivial, .inr (.inr (.inr (.inr ⟨by go_num, H1.out, H2.out, H3.out, h⟩)))⟩, by simp [intOf]⟩
      · have hn : (d != 0) = true := by simpa using h
        go_wp2
        go_ret
        exact ⟨ret_int (by first | rfl | simp [H1.out] | simp [H1.out, H2.out] | simp [H1.out, H2.out, H3.out] | simp [H1.out, H2.out, H3.out, H4.out]), rfl⟩
    · have H1 := hideB2 ha
      have H2 := hideB2 hb
      have H3 := hideB2 hc
      have H4 := hideB2 hd
      clear ha hb hc hd
      go_wp2
      go_ret
      exact ⟨ret_int (by first | rfl | simp [H1.out] | simp [H1.out, H2.out] | simp [H1.out, H2.out, H3.out] | simp [H1.out, H2.out, H3.out, H4.out]), rfl⟩
set_option maxRecDepth 100000 in
set_option maxHeartbeats 4000000 in
theorem Compare_any (x y : Lx) (w : World) :
    Calls Tryz.prog 30 #[lxV x, lxV y] w fun e w' => e = .returned (.int .i64 (cmpX x y)) ∧ Below w.heap.size w w' := by
  have HK := hideB2 (fun W => compareKey_any x y.ke W)
  unfold cmpX
  have HOR := hideB2 (fun g W => Or4_any (kes x.ke y.ke) (sgn3 x.ti y.ti) (sgn3 x.se y.se) (sgn3 x.wh y.wh) g W)
  generalize or4 (kes x.ke y.ke) (sgn3 x.ti y.ti) (sgn3 x.se y.se) (sgn3 x.wh y.wh) = r at *
  generalize kes x.ke y.ke = k1 at *
  have HB2 := hideB2 (below_a2 w (.cells (lxC x) 45) (.cells (lxC y) 45))
  have B1 := (Blk.new w (lxC x) 45).alloc (.cells (lxC y) 45)
  have B2 := Blk.new (w.alloc (.cells (lxC x) 45)) (lxC y) 45
  rw [show (w.alloc (.cells (lxC x) 45)).heap.size = w.heap.size + 1 by simp] at B2
  obtain ⟨ke, ti, si, me, st, la, rv, se, wh, sz⟩ := x
  obtain ⟨yke, yti, ysi, yme, yst, yla, yrv, yse, ywh, ysz⟩ := y
  unfold lxV at *
  unfold lxC at *
  simp only at *
  go_enter Tryz.func30, Tryz.ntmps30
  go_wp2_with fail
  generalize (w.alloc (.cells #[.string ke, .int .i64 ti, .int .i64 si, .string me, .int .i64 st, .string la, .bool rv, .int .i64 se, .int .i64 wh, .int .i64 sz] 45)).alloc (.cells #[.string yke, .int .i64 yti, .int .i64 ysi, .string yme, .int .i64 yst, .string yla, .bool yrv, .int .i64 yse, .int .i64 ywh, .int .i64 ysz] 45) = W at *
  obtain ⟨p0, p1, p2, p3, p4, p5, p6, p7, p8, p9⟩ := B1.c10
  obtain ⟨q0, q1, q2, q3, q4, q5, q6, q7, q8, q9⟩ := B2.c10
  have a0 := fun V => grw_some p0 V
  have a1 := fun V => grw_some p1 V
  have a2 := fun V => grw_some p2 V
  have a3 := fun V => grw_some p3 V
  have a4 := fun V => grw_some p4 V
  have a5 := fun V => grw_some p5 V
  have a6 := fun V => grw_some p6 V
  have a7 := fun V => grw_some p7 V
  have a8 := fun V => grw_some p8 V
  have a9 := fun V => grw_some p9 V
  have b0 := fun V => grw_some q0 V
  have b1 := fun V => grw_some q1 V
  have b7 := fun V => grw_some q7 V
  have b8 := fun V => grw_some q8 V
  clear p0 p1 p2 p3 p4 p5 p6 p7 p8 p9 q0 q1 q2 q3 q4 q5 q6 q7 q8 q9 B1 B2
  refine wp_region_grow_tail 19 ?_ ?_ ?_
  · kernel_rfl
  · kernel_rfl
  · intro hne
    simp only [List.take_succ_cons, List.take_zero, List.drop_succ_cons, List.drop_zero]
    repeat (go_big_quiet_step (first
      | (go_at_call 34; exact grow_call (HK.out _))
      | (go_at_call 51; exact grow_same (CompareI_any _ _ _))))
    refine wpQuiet_nil ?_
    rintro _ ⟨V, rfl⟩
    have hb3 := below_then HB2.out (grw_below W V)
    generalize sgn3 ti yti = k2 at *
    generalize sgn3 se yse = k3 at *
    generalize sgn3 wh ywh = k4 at *
    have B3 := Blk.new (grw W V) #[.int .i64 k1, .int .i64 k2, .int .i64 k3, .int .i64 k4] 3
    have hb4 := below_then hb3 (below_a1 (grw W V) (.cells #[.int .i64 k1, .int .i64 k2, .int .i64 k3, .int .i64 k4] 3))
    clear a0 a1 a2 a3 a4 a5 a6 a7 a8 a9 b0 b1 b7 b8 HK hb3
    generalize grw W V = w3 at *
    go_wp2_with (go_at_call 50; refine (HOR.out _ _ B3).mono ?_; rintro e w' ⟨rfl, rfl⟩)
    go_ret
    exact ⟨rfl, hb4⟩
set_option maxRecDepth 100000 in
theorem l9sign_any (a b : Int) (w : World) : Calls Tryz.prog 49 #[.int .i64 a, .int .i64 b] w fun e w' => e = .returned (.int .i64 (sgn3 a b)) ∧ w' = w := by
  rcases sgn3_cases a b with ⟨e, h⟩ | ⟨e, h⟩ | ⟨e, h⟩
  all_goals
    rw [e]
    have HE := hideB2 e
    clear e
    try subst h
    go_enter Tryz.func49, Tryz.ntmps49
    go_wp2
    go_ret
    exact ⟨rfl, rfl⟩
set_option maxRecDepth 100000 in
set_option maxHeartbeats 2000000 in
theorem sCompare_any (x y : Lx) (w : World) :
    Calls Tryz.prog 25 #[lxV x, lxV y] w fun e w' => e = .returned (.int .i64 (cmpX x y)) ∧ Below w.heap.size w w' := by
  have HK := kes_cases x.ke y.ke
  have HE : Hid (cmpX x y = or4 (kes x.ke y.ke) (sgn3 x.ti y.ti) (sgn3 x.se y.se) (sgn3 x.wh y.wh)) := rfl
  obtain ⟨ke, ti, si, me, st, la, rv, se, wh, sz⟩ := x
  obtain ⟨yke, yti, ysi, yme, yst, yla, yrv, yse, ywh, ysz⟩ := y
  unfold lxV at *
  simp only at *
  have HB2 := hideB2 (below_a2 w (.cells #[.string ke, .int .i64 ti, .int .i64 si, .string me, .int .i64 st, .string la, .bool rv, .int .i64 se, .int .i64 wh, .int .i64 sz] 45) (.cells #[.string yke, .int .i64 yti, .int .i64 ysi, .string yme, .int .i64 yst, .string yla, .bool yrv, .int .i64 yse, .int .i64 ywh, .int .i64 ysz] 45))
  generalize cmpX ⟨ke, ti, si, me, st, la, rv, se, wh, sz⟩ ⟨yke, yti, ysi, yme, yst, yla, yrv, yse, ywh, ysz⟩ = r at *
  generalize hk2 : sgn3 ti yti = k2 at *
  generalize hk3 : sgn3 se yse = k3 at *
  generalize hk4 : sgn3 wh ywh = k4 at *
  have HS := hideB2 (And.intro hk2 (And.intro hk3 hk4))
  clear hk2 hk3 hk4
  rcases HK with ⟨e, h⟩ | ⟨e, h⟩ | ⟨e, h⟩
  · rw [e] at HE
    have hne : (ke.toList == yke.toList) = false := by
      cases h4 : (ke.toList == yke.toList)
      · rfl
      · rw [eq_of_beq h4, bl_irr] at h; cases h
    have HR := hideB2 (show r = -1 from HE.out)
    clear HE e
    go_enter Tryz.func25, Tryz.ntmps25
    go_wp2
    go_ret
    exact ⟨ret_int HR.out, HB2.out⟩
  · rw [e] at HE
    have h2 := bl_asym h
    have hne : (ke.toList == yke.toList) = false := by
      cases h4 : (ke.toList == yke.toList)
      · rfl
      · rw [eq_of_beq h4, bl_irr] at h; cases h
    have HR := hideB2 (show r = 1 from HE.out)
    clear HE e
    go_enter Tryz.func25, Tryz.ntmps25
    go_wp2
    go_ret
    exact ⟨ret_int HR.out, HB2.out⟩
  · rw [e] at HE
    subst h
    have heq : (ke.toList == ke.toList) = true := by simp
    clear e
    by_cases h2 : k2 = 0
    · by_cases h3 : k3 = 0
      · have HR := hideB2 (show r = k4 by rw [HE.out, h2, h3]; rfl)
        have hb2 : (k2 != 0) = false := by simp [h2]
        have hb3 : (k3 != 0) = false := by simp [h3]
        clear HE h2 h3
        go_enter Tryz.func25, Tryz.ntmps25
        go_wp2_with (go_at_call 49; refine (l9sign_any _ _ _).mono ?_; rintro e w' ⟨rfl, rfl⟩; first | rw [HS.out.1] | rw [HS.out.2.1] | rw [HS.out.2.2])
        go_ret
        exact ⟨ret_int HR.out, HB2.out⟩
      · have HR := hideB2 (show r = k3 by rw [HE.out, h2]; unfold or4; rw [if_neg (by simp), if_neg (by simp), if_pos h3])
        have hb : (k3 != 0) = true := by simpa using h3
        have hb2 : (k2 != 0) = false := by simp [h2]
        clear HE h2 h3
        go_enter Tryz.func25, Tryz.ntmps25
        go_wp2_with (go_at_call 49; refine (l9sign_any _ _ _).mono ?_; rintro e w' ⟨rfl, rfl⟩; first | rw [HS.out.1] | rw [HS.out.2.1] | rw [HS.out.2.2])
        go_ret
        exact ⟨ret_int HR.out, HB2.out⟩
    · have HR := hideB2 (show r = k2 by rw [HE.out]; unfold or4; rw [if_neg (by simp), if_pos h2])
      have hb : (k2 != 0) = true := by simpa using h2
      clear HE h2
      go_enter Tryz.func25, Tryz.ntmps25
      go_wp2_with (go_at_call 49; refine (l9sign_any _ _ _).mono ?_; rintro e w' ⟨rfl, rfl⟩; first | rw [HS.out.1] | rw [HS.out.2.1] | rw [HS.out.2.2])
      go_ret
      exact ⟨ret_int HR.out, HB2.out⟩
end Go.Proofs.YtenjbgpndkodmacGreatDoor
namespace Go.Proofs.YtenjbgpndkodmacGreatDoor
set_option linter.unusedVariables false
set_option linter.unusedSimpArgs false
open Go.RowKit
theorem usO_no1 {s : ByteArray} (h : urQ (usK s) = false) : usO s = false ∧ usU s = ur0 := by
  have h1 : usO s = false := by unfold usO; rw [h, Bool.false_and]
  exact ⟨h1, by unfold usU; rw [if_neg (by rw [h1]; simp)]⟩
theorem usO_no2 {s : ByteArray} (h : eqB (suU (usK s)) s = false) : usO s = false ∧ usU s = ur0 := by
  have h1 : usO s = false := by unfold usO; rw [h, Bool.and_false]
  exact ⟨h1, by unfold usU; rw [if_neg (by rw [h1]; simp)]⟩
theorem usO_yes {s : ByteArray} (h : urQ (usK s) = true) (h2 : eqB (suU (usK s)) s = true) : usO s = true ∧ usU s = usK s := by
  have h1 : usO s = true := by unfold usO; rw [h, h2, Bool.and_self]
  exact ⟨h1, by unfold usU; rw [if_pos h1]⟩
theorem usK_form (s : ByteArray) : usK s = ⟨turnB (uptS 58 (uptS 41 s)) 44 46, uptS 63 (bhS 41 s), bhS 63 (bhS 41 s), if hasS 58 (uptS 41 s) = true then rdecN (bhS 58 (uptS 41 s)) else 80, hasS 63 (bhS 41 s)⟩ := by
  simp only [usK, usT, hoS]
set_option maxRecDepth 100000 in
set_option maxHeartbeats 8000000 in
theorem Unsurt_any (s : ByteArray) (w : World) (hs : s.size ≤ 1048576) (htab : Tab10 w) :
    Calls Tryz.prog 78 #[.string s] w fun e w' => e = .returned (.tuple #[valU (usU s), .bool (usO s)]) ∧ Below w.heap.size w w' := by
  have HB := hideB2 (below_a1 w (.cells #[.string ⟨#[]⟩, .int .i64 0, .string ⟨#[]⟩, .string ⟨#[]⟩, .bool false] 84))
  have A0 := hideB2 (Blk.new w #[.string ⟨#[]⟩, .int .i64 0, .string ⟨#[]⟩, .string ⟨#[]⟩, .bool false] 84)
  have HT := hideB2 htab
  have H1 := hideB2 (fun W => CutS_any s 41 W (by unfold maxLen; omega))
  have z1 := uptS_size 41 s
  have z2 := bhS_size 41 s
  have HK0 := usK_form s
  have N1 := hideB2 (fun h => usO_no1 (s := s) h)
  have N2 := hideB2 (fun h => usO_no2 (s := s) h)
  have N3 := hideB2 (fun h h2 => usO_yes (s := s) h h2)
  clear htab
  generalize usU s = U at *
  generalize usO s = O at *
  generalize usK s = K at *
  generalize uptS 41 s = a at *
  generalize bhS 41 s = e at *
  generalize hasS 41 s = hs41 at *
  have H2 := hideB2 (fun W => looseUrl_any a e W (by omega) (by omega))
  have z3 := uptS_size 58 a
  have z4 := uptS_size 63 e
  have z5 := bhS_size 63 e
  generalize (if hasS 58 a = true then rdecN (bhS 58 a) else 80) = po at *
  generalize uptS 58 a = h at *
  generalize uptS 63 e = p at *
  generalize bhS 63 e = q at *
  generalize hasS 63 e = hq at *
  have H3 := hideB2 (fun W => turnedHost_any h 44 46 W (by omega))
  have z6 := turnB_size_eq h 44 46
  generalize turnB h 44 46 = th at *
  have H4 := hideB2 (fun W (h : Tab10 W) => UrlOk_any th p q po hq W h (by omega) (by omega) (by omega))
  have H5 := hideB2 (fun W (h : Tab10 W) => Surt_any th p q po hq W h (by omega) (by omega) (by omega))
  change Hid (∀ W, Tab10 W → Calls _ _ _ W fun e w' => e = .returned (.bool (urQ ⟨th, p, q, po, hq⟩)) ∧ Below W.heap.size W w') at H4
  change Hid (∀ W, Tab10 W → Calls _ _ _ W fun e w' => e = .returned (.string (suU ⟨th, p, q, po, hq⟩)) ∧ Below W.heap.size W w') at H5
  rw [← HK0] at H4 H5
  have HK := hideB2 HK0
  clear HK0
  have HSE := hideB2 (show ((suU K).toList == s.toList) = eqB (suU K) s from rfl)
  generalize urQ K = okv at *
  generalize eqB (suU K) s = b at *
  generalize suU K = sk at *
  have hse := HSE.out
  clear HSE
  go_enter Tryz.func78, Tryz.ntmps78
  go_wp2_with fail
  refine (H1.out _).mono ?_
  rintro e1 w1 ⟨rfl, hb1⟩
  go_wp2_with fail
  refine (H2.out _).mono ?_
  rintro e2 w2 ⟨rfl, hb2⟩
  have A2 := (A0.out.later hb1).later hb2
  have hb2' := below_then (below_then HB.out hb1) hb2
  have hlt := A2.lt
  have B2 := Blk.new w2 #[.string h, .int .i64 po, .string p, .string q, .bool hq] 84
  have A2' := A2.alloc (.cells #[.string h, .int .i64 po, .string p, .string q, .bool hq] 84)
  have hb2'' := below_then hb2' (below_a1 w2 (.cells #[.string h, .int .i64 po, .string p, .string q, .bool hq] 84))
  clear hb1 hb2 HB A0 H1 H2 A2
  go_wp2_with fail
  refine (H3.out _).mono ?_
  rintro e3 w3 ⟨rfl, hb3⟩
  have B3 := hideB2 (B2.later hb3)
  have A3 := hideB2 (A2'.later hb3)
  have HB3 := hideB2 (below_then hb2'' hb3)
  have hne : w2.heap.size ≠ w.heap.size := by omega
  have hge : w.heap.size ≤ w2.heap.size := by omega
  clear hb2' hb2'' hb3 B2 A2' H3 hlt
  generalize w2.heap.size = G at *
  obtain ⟨p0, p1, p2, p3, p4⟩ := B3.out.u5
  obtain ⟨f0, f1, f2, f3, f4⟩ := B3.out.f5U
  go_wp2_with fail
  refine (H4.out _ (tab_later HT.out (HB3.out.setCell (p := ⟨G, 0, none⟩) hge _))).mono ?_
  rintro e4 w4 ⟨rfl, hb4⟩
  have B4 : Hid (Blk w4 G #[.string th, .int .i64 po, .string p, .string q, .bool hq] 84) := hideB2 ((B3.out.set 0 _).later hb4)
  have A4 : Hid (Blk w4 w.heap.size #[.string ⟨#[]⟩, .int .i64 0, .string ⟨#[]⟩, .string ⟨#[]⟩, .bool false] 84) := hideB2 ((A3.out.other hne 0 _).later hb4)
  have HB4 := hideB2 (below_then (HB3.out.setCell (p := ⟨G, 0, none⟩) hge _) hb4)
  clear p0 p1 p2 p3 p4 f0 f1 f2 f3 f4 hb4 B3 A3 HB3 H4
  cases okv
  · have HUO := hideB2 (N1.out rfl)
    obtain ⟨a0, a1, a2, a3, a4⟩ := A4.out.u5
    obtain ⟨g0, g1, g2, g3, g4⟩ := A4.out.f5U
    clear B4
    have HF := hideB2 (show Ending.returned (.tuple #[.agg #[.string ⟨#[]⟩, .int .i64 0, .string ⟨#[]⟩, .string ⟨#[]⟩, .bool false], .bool false]) = .returned (.tuple #[valU U, .bool O]) by obtain ⟨h1, h2⟩ := HUO.out; rw [h1, h2]; rfl)
    go_wp2
    refine bodyPost_ret (results_cellT rfl _ _ _ rfl (A4.out.set5U _ _ _ _ _) Tryz.underlying84 Tryz.infoUrl) rfl ⟨?_, ?_⟩
    · exact HF.out
    exact below_set5 HB4.out (Nat.le_refl _) _ _ _ _ _
  · obtain ⟨p0, p1, p2, p3, p4⟩ := B4.out.u5
    go_wp2_with fail
    refine (H5.out _ (tab_later HT.out HB4.out)).mono ?_
    rintro e5 w5 ⟨rfl, hb5⟩
    have A5 := hideB2 (A4.out.later hb5)
    have B5 := hideB2 (B4.out.later hb5)
    have HB5 := hideB2 (below_then HB4.out hb5)
    clear p0 p1 p2 p3 p4 hb5 A4 B4 HB4 H5
    obtain ⟨p0, p1, p2, p3, p4⟩ := B5.out.u5
    obtain ⟨a0, a1, a2, a3, a4⟩ := A5.out.u5
    obtain ⟨g0, g1, g2, g3, g4⟩ := A5.out.f5U
    clear B5
    cases b
    · have HUO := hideB2 (N2.out rfl)
      have HF := hideB2 (show Ending.returned (.tuple #[.agg #[.string ⟨#[]⟩, .int .i64 0, .string ⟨#[]⟩, .string ⟨#[]⟩, .bool false], .bool false]) = .returned (.tuple #[valU U, .bool O]) by obtain ⟨h1, h2⟩ := HUO.out; rw [h1, h2]; rfl)
      go_wp2
      refine bodyPost_ret (results_cellT rfl _ _ _ rfl (A5.out.set5U _ _ _ _ _) Tryz.underlying84 Tryz.infoUrl) rfl ⟨?_, ?_⟩
      · exact HF.out
      exact below_set5 HB5.out (Nat.le_refl _) _ _ _ _ _
    · have HUO := hideB2 (show O = true ∧ U = ⟨th, p, q, po, hq⟩ by rw [← HK.out]; exact N3.out (by simp) (by simp))
      have HF := hideB2 (show Ending.returned (.tuple #[.agg #[.string th, .int .i64 po, .string p, .string q, .bool hq], .bool true]) = .returned (.tuple #[valU U, .bool O]) by obtain ⟨h1, h2⟩ := HUO.out; rw [h1, h2]; rfl)
      go_wp2
      refine bodyPost_ret (results_cellT rfl _ _ _ rfl (A5.out.set5U _ _ _ _ _) Tryz.underlying84 Tryz.infoUrl) rfl ⟨?_, ?_⟩
      · exact HF.out
      exact below_set5 HB5.out (Nat.le_refl _) _ _ _ _ _
end Go.Proofs.YtenjbgpndkodmacGreatDoor
namespace Go.Proofs.YtenjbgpndkodmacGreatDoor
set_option linter.unusedVariables false
set_option linter.unusedSimpArgs false
open Go.RowKit
theorem ssK_form (s : ByteArray) : ssK s = ⟨turnS (uptS 58 (uptS 41 s)) 44 46, uptS 63 (bhS 41 s), bhS 63 (bhS 41 s), if hasS 58 (uptS 41 s) = true then rdecN (bhS 58 (uptS 41 s)) else 80, hasS 63 (bhS 41 s)⟩ := by
  simp only [ssK, usT, hoS]
theorem us_no {s : ByteArray} (h : ¬ (s.size ≤ 200 ∧ hasS 41 s = true ∧ suU (ssK s) = s ∧ s ≠ ⟨#[]⟩)) : usO s = false ∧ usU s = ur0 := by
  have h1 : usO s = false := by
    cases ho : usO s with
    | false => rfl
    | true => exact absurd ((us_same s).1.2 ho) h
  exact ⟨h1, by unfold usU; rw [if_neg (by rw [h1]; simp)]⟩
theorem us_yes {s : ByteArray} (h : s.size ≤ 200 ∧ hasS 41 s = true ∧ suU (ssK s) = s ∧ s ≠ ⟨#[]⟩) : usO s = true ∧ usU s = ssK s := by
  have h1 := (us_same s).1.1 h
  exact ⟨h1, by unfold usU; rw [if_pos h1, (us_same s).2 h1]⟩
theorem ext_rest {s e : ByteArray} {n k : Nat} (h : s.extract n s.size = e) (hn : n + k ≤ s.size) : (s.extract (n + k) s.size).extract 1 (s.extract (n + k) s.size).size = e.extract (k + 1) e.size := by
  subst h
  have h1 : (s.extract (n + k) s.size).size = s.size - (n + k) := by rw [ByteArray.size_extract]; omega
  have h2 : (s.extract n s.size).size = s.size - n := by rw [ByteArray.size_extract]; omega
  rw [h1, h2, ByteArray.extract_extract, ByteArray.extract_extract]
  exact ext_congr (by omega) (by omega)
theorem turnS_size (h : ByteArray) (c d : UInt8) : (turnS h c d).size ≤ 2 * h.size + 1 := by
  have h1 := trnF_size d (splS c h).reverse
  have h2 := splS_le c h
  rw [List.length_reverse, sumS_rev] at h1
  unfold turnS
  omega
set_option maxRecDepth 100000 in
set_option maxHeartbeats 8000000 in
theorem sUnsurt_any (s : ByteArray) (w : World) (hs : s.size ≤ 1048576) :
    Calls Tryz.prog 70 #[.string s] w fun e w' => e = .returned (.tuple #[valU (usU s), .bool (usO s)]) ∧ Below w.heap.size w w' := by
  have HB := hideB2 (below_a1 w (.cells #[.string ⟨#[]⟩, .int .i64 0, .string ⟨#[]⟩, .string ⟨#[]⟩, .bool false] 84))
  have A0 := hideB2 (Blk.new w #[.string ⟨#[]⟩, .int .i64 0, .string ⟨#[]⟩, .string ⟨#[]⟩, .bool false] 84)
  by_cases hbig : (200 : Int) < (s.size : Int)
  · obtain ⟨e1, e2⟩ := us_no (s := s) (fun h => by have := h.1; omega)
    have d1 := decide_eq_true hbig
    rw [e1, e2]
    clear e1 e2
    go_enter Tryz.func70, Tryz.ntmps70
    go_wp2
    refine bodyPost_ret (results_cellT rfl _ _ _ rfl (Blk.new w _ _) Tryz.underlying84 Tryz.infoUrl) rfl ⟨rfl, HB.out⟩
  · have d1 := decide_eq_false hbig
    have H1 := hideB2 (fun W => l6uptoS_any s 41 W (by unfold maxLen; omega))
    change Hid (∀ W, Calls _ _ #[_, .int .u8 41] W _) at H1
    obtain ⟨c1, c2⟩ := cut_len 41 s
    have za := uptS_size 41 s
    by_cases hcut : (uptS 41 s).size < s.size
    · have hcut1 : (((uptS 41 s).size : Int) == (s.size : Int)) = false := by rw [beq_eq_false_iff_ne]; omega
      rw [decide_eq_true hcut] at c1
      rw [if_pos hcut] at c2
      have HK0 := ssK_form s
      have hsne : s ≠ ⟨#[]⟩ := by
        intro he
        have : s.size = 0 := by rw [he]; rfl
        omega
      have hse0 := nonempty_of (s := s) (by omega)
      have N2 := hideB2 (fun (h : eqB (suU (ssK s)) s = false) => us_no (s := s) (fun hh => by rw [hh.2.2.1, eqB_self] at h; cases h))
      have N3 := hideB2 (fun (h : eqB (suU (ssK s)) s = true) => us_yes (s := s) ⟨by omega, c1, eqB_iff.1 h, hsne⟩)
      have HSE := hideB2 (show ((suU (ssK s)).toList == s.toList) = eqB (suU (ssK s)) s from rfl)
      clear hsne c1
      generalize usU s = U at *
      generalize usO s = O at *
      generalize ssK s = K at *
      generalize eqB (suU K) s = b at *
      obtain ⟨d3, d4⟩ := cut_len 63 (bhS 41 s)
      obtain ⟨d5, d6⟩ := cut_len 58 (uptS 41 s)
      rw [d3, d4, d5, d6] at HK0
      have zb := bhS_size 41 s
      have hez : (bhS 41 s).size = s.size - ((uptS 41 s).size + 1) := by rw [c2, ByteArray.size_extract]; omega
      have hee : s.extract ((uptS 41 s).size + 1) s.size = bhS 41 s := c2.symm
      have zp := uptS_size 63 (bhS 41 s)
      have zpe : (uptS 41 s).size + 1 + (uptS 63 (bhS 41 s)).size ≤ s.size := by omega
      have hrs0 : (s.extract ((uptS 41 s).size + 1 + (uptS 63 (bhS 41 s)).size) s.size).size = s.size - ((uptS 41 s).size + 1 + (uptS 63 (bhS 41 s)).size) := by rw [ByteArray.size_extract]; omega
      have hq0 := ext_rest (k := (uptS 63 (bhS 41 s)).size) hee zpe
      clear c2 d3 d4 d5 d6
      generalize bhS 41 s = e at *
      generalize uptS 41 s = a at *
      have H3 := hideB2 (fun W => l6uptoS_any e 63 W (by unfold maxLen; omega))
      change Hid (∀ W, Calls _ _ #[_, .int .u8 63] W _) at H3
      generalize uptS 63 e = p at *
      have H2 := hideB2 (fun W => l6uptoS_any a 58 W (by unfold maxLen; omega))
      change Hid (∀ W, Calls _ _ #[_, .int .u8 58] W _) at H2
      have zh := uptS_size 58 a
      generalize uptS 58 a = h at *
      have H4 := hideB2 (fun W => l7turned_any h 44 46 W (by omega))
      change Hid (∀ W, Calls _ _ #[_, .int .u8 44, _] W _) at H4
      have zt := turnS_size h 44 46
      generalize turnS h 44 46 = th at *
      have zd : (a.extract (h.size + 1) a.size).size ≤ a.size := by rw [ByteArray.size_extract]; omega
      have zq : (e.extract (p.size + 1) e.size).size ≤ e.size := by rw [ByteArray.size_extract]; omega
      generalize hdd : a.extract (h.size + 1) a.size = d at *
      have HRD := hideB2 (fun W => sReadDec_any d W (by unfold maxLen; omega))
      generalize e.extract (p.size + 1) e.size = q at *
      generalize hrs : s.extract (a.size + 1 + p.size) s.size = rs at *
      have hqq := hq0
      have hrz : (rs.size = 0 ↔ ¬ p.size < e.size) := by omega
      have hee2 := hee
      have HK := hideB2 HK0
      clear HK0 hq0 hrs0 hez
      have w1n : IntKind.i64.wrap ((a.size : Int) + 1) = (a.size : Int) + 1 := by rw [IntKind.wrap_i64]; omega
      have w2n : IntKind.i64.wrap ((h.size : Int) + 1) = (h.size : Int) + 1 := by rw [IntKind.wrap_i64]; omega
      have w3n : IntKind.i64.wrap ((a.size : Int) + 1 + (p.size : Int)) = (a.size : Int) + 1 + (p.size : Int) := by rw [IntKind.wrap_i64]; omega
      have b1 : (0 : Int) ≤ (a.size : Int) + 1 := by omega
      have b2 : (a.size : Int) + 1 ≤ (s.size : Int) := by omega
      have b3 : (0 : Int) ≤ (a.size : Int) + 1 + (p.size : Int) := by omega
      have b4 : (a.size : Int) + 1 + (p.size : Int) ≤ (s.size : Int) := by have := zpe; omega
      have b5 : (0 : Int) ≤ (h.size : Int) + 1 := by omega
      have hse := HSE.out
      clear HSE
      go_enter Tryz.func70, Tryz.ntmps70
      go_wp2_with fail
      refine (H1.out _).mono ?_
      rintro e1 wa ⟨rfl, rfl⟩
      go_wp2_with fail
      refine (H2.out _).mono ?_
      rintro e2 wb ⟨rfl, rfl⟩
      go_wp2_with fail
      (try rw [hee])
      refine (H3.out _).mono ?_
      rintro e3 wc ⟨rfl, rfl⟩
      go_wp2_with fail
      refine (H4.out _).mono ?_
      rintro e4 w1 ⟨rfl, hb1⟩
      have A1 := hideB2 (A0.out.later hb1)
      have HB1 := hideB2 (below_then HB.out hb1)
      have hlt := A1.out.lt
      clear hb1 HB A0 H1 H2 H3 H4 hee hee2
      have hne : w1.heap.size ≠ w.heap.size := by omega
      have hge : w.heap.size ≤ w1.heap.size := by omega
      clear hlt
      by_cases htold : h.size < a.size
      · have htold1 : (h.size : Int) < (a.size : Int) := by omega
        have b6 : (h.size : Int) + 1 ≤ (a.size : Int) := by omega
        by_cases hquery : p.size < e.size
        · have hrn := nonempty_of (s := rs) (by omega)
          have c9 : (1 : Int) ≤ (rs.size : Int) := by omega
          clear hrz
          have HKF := hideB2 (show K = ⟨th, p, q, rdecN d, true⟩ by rw [HK.out, if_pos hquery, decide_eq_true htold, if_pos rfl, if_pos htold, decide_eq_true hquery])
          have HSU := hideB2 (fun W => sSurt_any th p q (rdecN d) true W (by omega) (by omega) (by omega))
          change Hid (∀ W, Calls _ _ _ W fun e w' => e = .returned (.string (suU ⟨th, p, q, rdecN d, true⟩)) ∧ Below W.heap.size W w') at HSU
          rw [← HKF.out] at HSU
          generalize suU K = sk at *
          generalize rdecN d = n at *
          go_wp2_with fail
          (try rw [hdd])
          refine (HRD.out _).mono ?_
          rintro e3 w3 ⟨rfl, hb3⟩
          have B3 := hideB2 ((Blk.new w1 #[.string th, .int .i64 80, .string p, .string ⟨#[]⟩, .bool false] 84).later hb3)
          have A3 := hideB2 ((A1.out.alloc (.cells #[.string th, .int .i64 80, .string p, .string ⟨#[]⟩, .bool false] 84)).later hb3)
          have HB3 := hideB2 (below_then (below_then HB1.out (below_a1 w1 (.cells #[.string th, .int .i64 80, .string p, .string ⟨#[]⟩, .bool false] 84))) hb3)
          clear hb3 HRD
          obtain ⟨p0, p1, p2, p3, p4⟩ := B3.out.u5
          obtain ⟨f0, f1, f2, f3, f4⟩ := B3.out.f5U
          go_wp2_with fail
          (try rw [hrs])
          (try rw [hqq])
          refine (HSU.out _).mono ?_
          rintro e5 w5 ⟨rfl, hb5⟩
          have B5 : Hid (Blk w5 w1.heap.size #[.string th, .int .i64 n, .string p, .string q, .bool true] 84) := hideB2 ((((B3.out.set 1 _).set 4 _).set 3 _).later hb5)
          have A5 : Hid (Blk w5 w.heap.size #[.string ⟨#[]⟩, .int .i64 0, .string ⟨#[]⟩, .string ⟨#[]⟩, .bool false] 84) := hideB2 ((((A3.out.other hne 1 _).other hne 4 _).other hne 3 _).later hb5)
          have HB5 := hideB2 (below_then (((HB3.out.setCell (p := ⟨w1.heap.size, 1, none⟩) hge _).setCell (p := ⟨w1.heap.size, 4, none⟩) hge _).setCell (p := ⟨w1.heap.size, 3, none⟩) hge _) hb5)
          clear p0 p1 p2 p3 p4 f0 f1 f2 f3 f4 B3 A3 HB3
          clear hb5
          obtain ⟨p0, p1, p2, p3, p4⟩ := B5.out.u5
          obtain ⟨a0, a1, a2, a3, a4⟩ := A5.out.u5
          obtain ⟨g0, g1, g2, g3, g4⟩ := A5.out.f5U
          clear B5 HSU
          cases b
          · have HF := hideB2 (show Ending.returned (.tuple #[.agg #[.string ⟨#[]⟩, .int .i64 0, .string ⟨#[]⟩, .string ⟨#[]⟩, .bool false], .bool false]) = .returned (.tuple #[valU U, .bool O]) by obtain ⟨h1, h2⟩ := N2.out (by simp); rw [h1, h2]; rfl)
            go_wp2
            refine bodyPost_ret (results_cellT rfl _ _ _ rfl (A5.out.set5U _ _ _ _ _) Tryz.underlying84 Tryz.infoUrl) rfl ⟨?_, ?_⟩
            · exact HF.out
            exact below_set5 HB5.out (Nat.le_refl _) _ _ _ _ _
          · have HF := hideB2 (show Ending.returned (.tuple #[.agg #[.string th, .int .i64 n, .string p, .string q, .bool true], .bool true]) = .returned (.tuple #[valU U, .bool O]) by obtain ⟨h1, h2⟩ := N3.out (by simp); rw [h1, h2, HKF.out]; rfl)
            go_wp2
            refine bodyPost_ret (results_cellT rfl _ _ _ rfl (A5.out.set5U _ _ _ _ _) Tryz.underlying84 Tryz.infoUrl) rfl ⟨?_, ?_⟩
            · exact HF.out
            exact below_set5 HB5.out (Nat.le_refl _) _ _ _ _ _
        · have hrn := empty_of (s := rs) (by omega)
          clear hrz
          have HKF := hideB2 (show K = ⟨th, p, ⟨#[]⟩, rdecN d, false⟩ by rw [HK.out, if_neg hquery, decide_eq_true htold, if_pos rfl, if_pos htold, decide_eq_false hquery])
          have HSU := hideB2 (fun W => sSurt_any th p ⟨#[]⟩ (rdecN d) false W (by omega) (by omega) (by decide))
          change Hid (∀ W, Calls _ _ _ W fun e w' => e = .returned (.string (suU ⟨th, p, ⟨#[]⟩, rdecN d, false⟩)) ∧ Below W.heap.size W w') at HSU
          rw [← HKF.out] at HSU
          generalize suU K = sk at *
          generalize rdecN d = n at *
          go_wp2_with fail
          (try rw [hdd])
          refine (HRD.out _).mono ?_
          rintro e3 w3 ⟨rfl, hb3⟩
          have B3 := hideB2 ((Blk.new w1 #[.string th, .int .i64 80, .string p, .string ⟨#[]⟩, .bool false] 84).later hb3)
          have A3 := hideB2 ((A1.out.alloc (.cells #[.string th, .int .i64 80, .string p, .string ⟨#[]⟩, .bool false] 84)).later hb3)
          have HB3 := hideB2 (below_then (below_then HB1.out (below_a1 w1 (.cells #[.string th, .int .i64 80, .string p, .string ⟨#[]⟩, .bool false] 84))) hb3)
          clear hb3 HRD
          obtain ⟨p0, p1, p2, p3, p4⟩ := B3.out.u5
          obtain ⟨f0, f1, f2, f3, f4⟩ := B3.out.f5U
          go_wp2_with fail
          (try rw [hrs])
          (try rw [hqq])
          refine (HSU.out _).mono ?_
          rintro e5 w5 ⟨rfl, hb5⟩
          have B5 : Hid (Blk w5 w1.heap.size #[.string th, .int .i64 n, .string p, .string ⟨#[]⟩, .bool false] 84) := hideB2 ((B3.out.set 1 _).later hb5)
          have A5 : Hid (Blk w5 w.heap.size #[.string ⟨#[]⟩, .int .i64 0, .string ⟨#[]⟩, .string ⟨#[]⟩, .bool false] 84) := hideB2 ((A3.out.other hne 1 _).later hb5)
          have HB5 := hideB2 (below_then (HB3.out.setCell (p := ⟨w1.heap.size, 1, none⟩) hge _) hb5)
          clear p0 p1 p2 p3 p4 f0 f1 f2 f3 f4 B3 A3 HB3
          clear hb5
          obtain ⟨p0, p1, p2, p3, p4⟩ := B5.out.u5
          obtain ⟨a0, a1, a2, a3, a4⟩ := A5.out.u5
          obtain ⟨g0, g1, g2, g3, g4⟩ := A5.out.f5U
          clear B5 HSU
          cases b
          · have HF := hideB2 (show Ending.returned (.tuple #[.agg #[.string ⟨#[]⟩, .int .i64 0, .string ⟨#[]⟩, .string ⟨#[]⟩, .bool false], .bool false]) = .returned (.tuple #[valU U, .bool O]) by obtain ⟨h1, h2⟩ := N2.out (by simp); rw [h1, h2]; rfl)
            go_wp2
            refine bodyPost_ret (results_cellT rfl _ _ _ rfl (A5.out.set5U _ _ _ _ _) Tryz.underlying84 Tryz.infoUrl) rfl ⟨?_, ?_⟩
            · exact HF.out
            exact below_set5 HB5.out (Nat.le_refl _) _ _ _ _ _
          · have HF := hideB2 (show Ending.returned (.tuple #[.agg #[.string th, .int .i64 n, .string p, .string ⟨#[]⟩, .bool false], .bool true]) = .returned (.tuple #[valU U, .bool O]) by obtain ⟨h1, h2⟩ := N3.out (by simp); rw [h1, h2, HKF.out]; rfl)
            go_wp2
            refine bodyPost_ret (results_cellT rfl _ _ _ rfl (A5.out.set5U _ _ _ _ _) Tryz.underlying84 Tryz.infoUrl) rfl ⟨?_, ?_⟩
            · exact HF.out
            exact below_set5 HB5.out (Nat.le_refl _) _ _ _ _ _
      · have htold1 : ¬ (h.size : Int) < (a.size : Int) := by omega
        clear HRD
        by_cases hquery : p.size < e.size
        · have hrn := nonempty_of (s := rs) (by omega)
          have c9 : (1 : Int) ≤ (rs.size : Int) := by omega
          clear hrz
          have HKF := hideB2 (show K = ⟨th, p, q, 80, true⟩ by rw [HK.out, if_pos hquery, decide_eq_false htold, if_neg (by simp), decide_eq_true hquery])
          have HSU := hideB2 (fun W => sSurt_any th p q (80) true W (by omega) (by omega) (by omega))
          change Hid (∀ W, Calls _ _ _ W fun e w' => e = .returned (.string (suU ⟨th, p, q, 80, true⟩)) ∧ Below W.heap.size W w') at HSU
          rw [← HKF.out] at HSU
          generalize suU K = sk at *
          go_wp2_with fail
          (try rw [hrs])
          (try rw [hqq])
          refine (HSU.out _).mono ?_
          rintro e5 w5 ⟨rfl, hb5⟩
          have B5 := hideB2 ((Blk.new w1 #[.string th, .int .i64 80, .string p, .string q, .bool true] 84).later hb5)
          have A5 := hideB2 ((A1.out.alloc (.cells #[.string th, .int .i64 80, .string p, .string q, .bool true] 84)).later hb5)
          have HB5 := hideB2 (below_then (below_then HB1.out (below_a1 w1 (.cells #[.string th, .int .i64 80, .string p, .string q, .bool true] 84))) hb5)
          clear hb5
          obtain ⟨p0, p1, p2, p3, p4⟩ := B5.out.u5
          obtain ⟨a0, a1, a2, a3, a4⟩ := A5.out.u5
          obtain ⟨g0, g1, g2, g3, g4⟩ := A5.out.f5U
          clear B5 HSU
          cases b
          · have HF := hideB2 (show Ending.returned (.tuple #[.agg #[.string ⟨#[]⟩, .int .i64 0, .string ⟨#[]⟩, .string ⟨#[]⟩, .bool false], .bool false]) = .returned (.tuple #[valU U, .bool O]) by obtain ⟨h1, h2⟩ := N2.out (by simp); rw [h1, h2]; rfl)
            go_wp2
            refine bodyPost_ret (results_cellT rfl _ _ _ rfl (A5.out.set5U _ _ _ _ _) Tryz.underlying84 Tryz.infoUrl) rfl ⟨?_, ?_⟩
            · exact HF.out
            exact below_set5 HB5.out (Nat.le_refl _) _ _ _ _ _
          · have HF := hideB2 (show Ending.returned (.tuple #[.agg #[.string th, .int .i64 80, .string p, .string q, .bool true], .bool true]) = .returned (.tuple #[valU U, .bool O]) by obtain ⟨h1, h2⟩ := N3.out (by simp); rw [h1, h2, HKF.out]; rfl)
            go_wp2
            refine bodyPost_ret (results_cellT rfl _ _ _ rfl (A5.out.set5U _ _ _ _ _) Tryz.underlying84 Tryz.infoUrl) rfl ⟨?_, ?_⟩
            · exact HF.out
            exact below_set5 HB5.out (Nat.le_refl _) _ _ _ _ _
        · have hrn := empty_of (s := rs) (by omega)
          clear hrz
          have HKF := hideB2 (show K = ⟨th, p, ⟨#[]⟩, 80, false⟩ by rw [HK.out, if_neg hquery, decide_eq_false htold, if_neg (by simp), decide_eq_false hquery])
          have HSU := hideB2 (fun W => sSurt_any th p ⟨#[]⟩ (80) false W (by omega) (by omega) (by decide))
          change Hid (∀ W, Calls _ _ _ W fun e w' => e = .returned (.string (suU ⟨th, p, ⟨#[]⟩, 80, false⟩)) ∧ Below W.heap.size W w') at HSU
          rw [← HKF.out] at HSU
          generalize suU K = sk at *
          go_wp2_with fail
          (try rw [hrs])
          (try rw [hqq])
          refine (HSU.out _).mono ?_
          rintro e5 w5 ⟨rfl, hb5⟩
          have B5 := hideB2 ((Blk.new w1 #[.string th, .int .i64 80, .string p, .string ⟨#[]⟩, .bool false] 84).later hb5)
          have A5 := hideB2 ((A1.out.alloc (.cells #[.string th, .int .i64 80, .string p, .string ⟨#[]⟩, .bool false] 84)).later hb5)
          have HB5 := hideB2 (below_then (below_then HB1.out (below_a1 w1 (.cells #[.string th, .int .i64 80, .string p, .string ⟨#[]⟩, .bool false] 84))) hb5)
          clear hb5
          obtain ⟨p0, p1, p2, p3, p4⟩ := B5.out.u5
          obtain ⟨a0, a1, a2, a3, a4⟩ := A5.out.u5
          obtain ⟨g0, g1, g2, g3, g4⟩ := A5.out.f5U
          clear B5 HSU
          cases b
          · have HF := hideB2 (show Ending.returned (.tuple #[.agg #[.string ⟨#[]⟩, .int .i64 0, .string ⟨#[]⟩, .string ⟨#[]⟩, .bool false], .bool false]) = .returned (.tuple #[valU U, .bool O]) by obtain ⟨h1, h2⟩ := N2.out (by simp); rw [h1, h2]; rfl)
            go_wp2
            refine bodyPost_ret (results_cellT rfl _ _ _ rfl (A5.out.set5U _ _ _ _ _) Tryz.underlying84 Tryz.infoUrl) rfl ⟨?_, ?_⟩
            · exact HF.out
            exact below_set5 HB5.out (Nat.le_refl _) _ _ _ _ _
          · have HF := hideB2 (show Ending.returned (.tuple #[.agg #[.string th, .int .i64 80, .string p, .string ⟨#[]⟩, .bool false], .bool true]) = .returned (.tuple #[valU U, .bool O]) by obtain ⟨h1, h2⟩ := N3.out (by simp); rw [h1, h2, HKF.out]; rfl)
            go_wp2
            refine bodyPost_ret (results_cellT rfl _ _ _ rfl (A5.out.set5U _ _ _ _ _) Tryz.underlying84 Tryz.infoUrl) rfl ⟨?_, ?_⟩
            · exact HF.out
            exact below_set5 HB5.out (Nat.le_refl _) _ _ _ _ _
    · have hcut1 : (((uptS 41 s).size : Int) == (s.size : Int)) = true := by rw [beq_iff_eq]; omega
      obtain ⟨e1, e2⟩ := us_no (s := s) (fun h => by have := h.2.1; rw [c1, decide_eq_false hcut] at this; cases this)
      rw [e1, e2]
      clear e1 e2 c1 c2 hcut
      generalize uptS 41 s = a at *
      go_enter Tryz.func70, Tryz.ntmps70
      go_wp2_with (go_at_call 93; refine (H1.out _).mono ?_; rintro e1 w1 ⟨rfl, rfl⟩)
      refine bodyPost_ret (results_cellT rfl _ _ _ rfl (Blk.new w _ _) Tryz.underlying84 Tryz.infoUrl) rfl ⟨rfl, HB.out⟩
end Go.Proofs.YtenjbgpndkodmacGreatDoor

namespace Go.Proofs.YtenjbgpndkodmacGreatDoor
set_option linter.unusedVariables false
set_option linter.unusedSimpArgs false
open Go.RowKit

theorem Tryz.infoU8c : (Tryz.prog.info? 5).map (fun i => (i.zero, i.size, i.bytes)) = some (some (.int .u8 0), 1, 1) := by kernel_rfl
theorem row_made2 {w w' : World} {n : Nat} (h : w'.ownsRow w.heap.size 5 1 (.slice (some ⟨w.heap.size, 0, none⟩) n n) n (List.replicate n (.int .u8 0))) : Row8 w' w.heap.size (List.replicate n 0) := by
  refine ⟨fun j hj => ?_, fun j hj => h.frozenAt j, (h.lt w.heap.size rfl).2⟩
  rw [List.length_replicate] at hj
  have := h.cells (g := w.heap.size) rfl j (.int .u8 0) (by simp [hj])
  rw [Addr.add_lit, Nat.zero_add] at this
  rw [this]; simp [List.getD, hj]
theorem wp_mk2 {ops : Array Oper} {rest : List Oper} {o : Oper} {a : Act} {Q : Exit → Act → World → Prop} {w : World} (hg : o.guard = none) (l c : Operand) (hop : o.op = Op.makeSlice 56 l c)
    (n : Nat) (L C : Int) (hl : a.eval l = .int .i64 L) (hc : a.eval c = .int .i64 C) (hL : L = (n : Int)) (hC : C = (n : Int)) (hn : n ≤ 1000000)
    (hK : ∀ w', Row8 w' w.heap.size (List.replicate n 0) → Below w.heap.size w w' → wpList Tryz.prog ops Q rest (a.put o.dst (.slice (some ⟨w.heap.size, 0, none⟩) n n)) w') :
    wpList Tryz.prog ops Q (o :: rest) a w := by
  obtain ⟨i0, hi, hz0, hz1, hz2⟩ := info_parts Tryz.infoU8c
  refine wpList_make_full w hg l c 56 hop w.heap.size 5 i0 (.int .u8 0) 1 Tryz.underlying56 hi hz0 hz1 .i64 .i64 L C n hl hc hL hC (by rw [hz2]; omega) (by unfold maxLen; omega) (Nat.le_refl _) ?_
  intro w' hown hgr
  refine hK w' (row_made2 ?_) ⟨hgr.os, hgr.tape, hgr.output, hgr.size, fun k hk => hgr.block k hk (by simp)⟩
  have e : (madeCells (Value.int .u8 0).cells (n * 1)).toList = List.replicate n (.int .u8 0) := by
    rw [Nat.mul_one]; exact toList_madeCells_one _ _
  rw [e] at hown
  exact hown
theorem dig_round {n p k : Nat} {w wr : World} (hlt : k < p) (hrow : Hid (Row8 wr w.heap.size (digRow n p k))) (hbel : Hid (Below w.heap.size w wr)) :
    Row8 (wr.setCell ⟨w.heap.size, p - 1 - k, none⟩ (.int .u8 (48 + ((n / 10 ^ k % 10 : Nat) : Int)))) w.heap.size (digRow n p (k + 1)) ∧ Below w.heap.size w (wr.setCell ⟨w.heap.size, p - 1 - k, none⟩ (.int .u8 (48 + ((n / 10 ^ k % 10 : Nat) : Int)))) := by
  refine ⟨?_, hbel.out.setCell (by simp) _⟩
  rw [digRow_succ n p k hlt]
  exact hrow.out.set _ _ (by rw [digRow_len n p k (by omega)]; omega)
set_option maxHeartbeats 1000000 in
theorem digits_any (n p : Nat) (w : World) (hp0 : 1 ≤ p) (hp : p ≤ 4) (hn : n ≤ 1000000) :
    Calls Tryz.prog 83 #[.int .i64 (n : Int), .int .i64 (p : Int)] w fun e w' => e = .returned (.string (digB n p)) ∧ Below w.heap.size w w' := by
  go_enter Tryz.func83, Tryz.ntmps83
  go_wp2_with (refine wp_mk2 rfl _ _ rfl p _ _ rfl rfl rfl rfl (by omega) ?_; intro W1 hr1 hb1; have HR := hideB2 hr1; have HB := hideB2 hb1; clear hr1 hb1)
  go_loopw [0, 10] (fun nn ii wr => ∃ k : Nat, k ≤ p ∧ ii = .int .i64 k ∧ nn = .int .i64 ((n / 10 ^ k : Nat) : Int) ∧ Row8 wr w.heap.size (digRow n p k) ∧ Below w.heap.size w wr) (fun _ ii _ => p - (intOf ii).toNat)
  case atStart => exact ⟨0, Nat.zero_le _, rfl, by simp, by rw [digRow_zero]; exact HR.out, HB.out⟩
  case round =>
    obtain ⟨k, hk, rfl, rfl, hrow, hbel⟩ := hrel
    clear HR HB
    by_cases hlt : k < p
    · have hc := hrow.cell (p - 1 - k) (by rw [digRow_len n p k hk]; omega)
      have hf := hrow.free (p - 1 - k) (by rw [digRow_len n p k hk]; omega)
      have HRR := hideB2 (dig_round hlt hrow hbel)
      have hu : Hid (n / 10 ^ (k + 1) = n / 10 ^ k / 10) := by show _ = _; rw [Nat.pow_succ, Nat.div_div_eq_div_mul]
      have hul : n / 10 ^ k ≤ 1000000 := Nat.le_trans (Nat.div_le_self _ _) hn
      have hix : ((p : Int) - 1 - (k : Int)) = ((p - 1 - k : Nat) : Int) := by omega
      clear hrow hbel
      generalize n / 10 ^ k = u at *
      generalize hq : p - 1 - k = q at *
      have HQ := hideB2 hq
      clear hq
      go_wp2
      go_roundw
      case rel => exact ⟨k + 1, by omega, by go_num, congrArg (Value.int .i64) (by rw [hu.out]; omega), HRR.out.1, HRR.out.2⟩
      case measure => simp [intOf]; omega
    · obtain rfl : k = p := by omega
      have kb := hrow.text (P := Tryz.prog) 56 5 9 k k (digRow_len n k k (Nat.le_refl _)) Tryz.underlying56 Tryz.underlying5 Tryz.underlying9
      rw [digRow_all] at kb
      go_wp2
      go_ret
      exact ⟨rfl, hbel⟩
theorem digits_at (n : Nat) (p : Int) (w : World) (h0 : 1 ≤ p) (h1 : p ≤ 4) (hn : n ≤ 1000000) :
    Calls Tryz.prog 83 #[.int .i64 (n : Int), .int .i64 p] w fun e w' => e = .returned (.string (digB n p.toNat)) ∧ Below w.heap.size w w' := by
  obtain ⟨q, rfl⟩ := Int.eq_ofNat_of_zero_le (a := p) (by omega)
  exact digits_any n q w (by omega) (by omega) hn
end Go.Proofs.YtenjbgpndkodmacGreatDoor
namespace Go.Proofs.YtenjbgpndkodmacGreatDoor
set_option linter.unusedVariables false
set_option linter.unusedSimpArgs false
open Go.RowKit

/-- A day and hour lies at the head of block b. -/
def CivAt (W : World) (b : Nat) (y m d h i s : Int) : Prop :=
  W.cell? ⟨b, 0, none⟩ = some (.int .i64 y) ∧ W.cell? ⟨b, 1, none⟩ = some (.int .i64 m) ∧ W.cell? ⟨b, 2, none⟩ = some (.int .i64 d) ∧ W.cell? ⟨b, 3, none⟩ = some (.int .i64 h) ∧ W.cell? ⟨b, 4, none⟩ = some (.int .i64 i) ∧ W.cell? ⟨b, 5, none⟩ = some (.int .i64 s)
theorem civAt_new (w : World) (y m d h i s : Int) (T : TypeId) : CivAt (w.alloc (.cells #[.int .i64 y, .int .i64 m, .int .i64 d, .int .i64 h, .int .i64 i, .int .i64 s] T)) w.heap.size y m d h i s := by
  unfold CivAt
  simp [go_sem]
theorem CivAt.grw {W : World} {b : Nat} {y m d h i s : Int} (k : CivAt W b y m d h i s) : (∀ V, (grw W V).cell? ⟨b, 0, none⟩ = some (.int .i64 y)) ∧ (∀ V, (grw W V).cell? ⟨b, 1, none⟩ = some (.int .i64 m)) ∧ (∀ V, (grw W V).cell? ⟨b, 2, none⟩ = some (.int .i64 d)) ∧ (∀ V, (grw W V).cell? ⟨b, 3, none⟩ = some (.int .i64 h)) ∧ (∀ V, (grw W V).cell? ⟨b, 4, none⟩ = some (.int .i64 i)) ∧ (∀ V, (grw W V).cell? ⟨b, 5, none⟩ = some (.int .i64 s)) :=
  ⟨grw_some k.1, grw_some k.2.1, grw_some k.2.2.1, grw_some k.2.2.2.1, grw_some k.2.2.2.2.1, grw_some k.2.2.2.2.2⟩
theorem CivAt.below {W W' : World} {b : Nat} {y m d h i s : Int} (k : CivAt W b y m d h i s) (hb : Below W.heap.size W W') : CivAt W' b y m d h i s := by
  have g := k.grw
  exact ⟨g.1 ⟨W', hb⟩, g.2.1 ⟨W', hb⟩, g.2.2.1 ⟨W', hb⟩, g.2.2.2.1 ⟨W', hb⟩, g.2.2.2.2.1 ⟨W', hb⟩, g.2.2.2.2.2 ⟨W', hb⟩⟩
end Go.Proofs.YtenjbgpndkodmacGreatDoor
namespace Go.Proofs.YtenjbgpndkodmacGreatDoor
set_option linter.unusedVariables false
set_option linter.unusedSimpArgs false
open Go.RowKit

set_option maxHeartbeats 1000000 in
theorem Stamp_no (t : Int) (w : World) (h : ¬ (0 ≤ t ∧ t ≤ 253402300799)) :
    Calls Tryz.prog 59 #[.int .i64 t] w fun e w' => e = .returned (.string ⟨#[]⟩) ∧ Below w.heap.size w w' := by
  go_enter Tryz.func59, Tryz.ntmps59
  go_wp2_with fail
  refine (CivilOf_no t _ h).mono ?_
  rintro e w1 ⟨rfl, hb1⟩
  have BW := below_then hb1 (below_a1 w1 (.cells #[.int .i64 0, .int .i64 0, .int .i64 0, .int .i64 0, .int .i64 0, .int .i64 0] 91))
  clear hb1 h
  go_wp2
  go_ret
  exact ⟨rfl, BW⟩
set_option maxHeartbeats 4000000 in
theorem Stamp_yes (t : Int) (y m d h i s : Nat) (w : World) (hT : MonTab w) (hv : vld y m d h i s) (ht : t = secs y m d h i s) :
    Calls Tryz.prog 59 #[.int .i64 t] w fun e w' => e = .returned (.string (stampB y m d h i s)) ∧ Below w.heap.size w w' := by
  have HH := hideB2 (CivilOf_yes t y m d h i s w hT hv ht)
  have hb := secs_bd hv
  rw [← ht] at hb
  obtain ⟨ht0, ht1⟩ := hb
  have hdm := dim_bd y m
  obtain ⟨v1, v2, v3, v4, v5, v6, v7, v8, v9, v10, v11, v12⟩ := hv
  have hsz := digB_size
  have hcz := clockB_size h i s
  have hmz := monB_size (k := m) (by omega) (by omega)
  have hwd := wdN_lt t
  have hdz := dayS_size hwd
  have hbz := bday_size d
  have hDz := dayB_size hwd
  have hD1 : ((dayB (wdN t)).size : Int) ≤ 9 := by omega
  clear ht hDz
  go_enter Tryz.func59, Tryz.ntmps59
  go_wp2_with fail
  refine HH.out.mono ?_
  rintro e w1 ⟨rfl, hb1⟩
  have BW := below_then hb1 (below_a1 w1 (.cells #[.int .i64 y, .int .i64 m, .int .i64 d, .int .i64 h, .int .i64 i, .int .i64 s] 91))
  have hT1 := hT.below BW
  have gc := civAt_new w1 y m d h i s 91
  clear hb1 hT HH
  go_wp2_with fail
  generalize w1.alloc (.cells #[.int .i64 y, .int .i64 m, .int .i64 d, .int .i64 h, .int .i64 i, .int .i64 s] 91) = W at *
  have hT := hT1
  obtain ⟨g0, g1, g2, g3, g4, g5⟩ := gc.grw
  clear gc hT1
  refine wp_region_grow ?_ ?_ ?_
  · kernel_rfl
  · kernel_rfl
  · intro hne
    repeat (go_big_quiet_step (first
      | (go_at_call 83; exact grow_call (digits_at _ _ _ (by omega) (by omega) (by omega)))))
    refine wpQuiet_nil ?_
    rintro _ ⟨V, rfl⟩
    have hb := below_then BW (grw_below W V)
    clear g0 g1 g2 g3 g4 g5 hT
    go_wp2
    go_ret
    exact ⟨rfl, hb⟩
end Go.Proofs.YtenjbgpndkodmacGreatDoor
namespace Go.Proofs.YtenjbgpndkodmacGreatDoor
set_option linter.unusedVariables false
set_option linter.unusedSimpArgs false
open Go.RowKit

theorem vldB_no {y m d h i s : Int} (hn : ¬ vld y m d h i s) : vldB y m d h i s = false := Bool.eq_false_iff.2 fun hh => hn (vldB_iff.1 hh)
set_option maxHeartbeats 8000000 in
theorem sCivilOk_any (y m d h i s : Int) (w : World) :
    Calls Tryz.prog 143 #[civ y m d h i s] w fun e w' => e = .returned (.bool (vldB y m d h i s)) ∧ Below w.heap.size w w' := by
  have HB := fun o n => below_drewN ((Below.refl w.heap.size w).alloc (Nat.le_refl _) o) n
  go_enter Tryz.func143, Tryz.ntmps143
  go_wp2
  refine wp_region_quiet_lit ?_ ?_ ?_
  · kernel_rfl
  · kernel_rfl
  · repeat (go_big_quiet_step (fail))
    cases c0 : decide (1970 ≤ y)
    · repeat (go_big_quiet_step (fail))
      refine wpQuiet_nil ?_
      rintro _ ⟨nq, rfl⟩
      go_wp2
      go_ret
      exact ⟨ret_bool (vldB_no fun hv => by have := of_decide_eq_false c0; unfold vld at hv; omega), HB _ _⟩
    · repeat (go_big_quiet_step (fail))
      cases c1 : decide (y ≤ 9999)
      · repeat (go_big_quiet_step (fail))
        refine wpQuiet_nil ?_
        rintro _ ⟨nq, rfl⟩
        go_wp2
        go_ret
        exact ⟨ret_bool (vldB_no fun hv => by have := of_decide_eq_false c1; unfold vld at hv; omega), HB _ _⟩
      · repeat (go_big_quiet_step (fail))
        cases c2 : decide (1 ≤ m)
        · repeat (go_big_quiet_step (fail))
          refine wpQuiet_nil ?_
          rintro _ ⟨nq, rfl⟩
          go_wp2
          go_ret
          exact ⟨ret_bool (vldB_no fun hv => by have := of_decide_eq_false c2; unfold vld at hv; omega), HB _ _⟩
        · repeat (go_big_quiet_step (fail))
          cases c3 : decide (m ≤ 12)
          · repeat (go_big_quiet_step (fail))
            refine wpQuiet_nil ?_
            rintro _ ⟨nq, rfl⟩
            go_wp2
            go_ret
            exact ⟨ret_bool (vldB_no fun hv => by have := of_decide_eq_false c3; unfold vld at hv; omega), HB _ _⟩
          · repeat (go_big_quiet_step (fail))
            cases c4 : decide (1 ≤ d)
            · repeat (go_big_quiet_step (fail))
              refine wpQuiet_nil ?_
              rintro _ ⟨nq, rfl⟩
              go_wp2
              go_ret
              exact ⟨ret_bool (vldB_no fun hv => by have := of_decide_eq_false c4; unfold vld at hv; omega), HB _ _⟩
            · repeat (go_big_quiet_step ((go_at_call 99; exact Calls.quiet_of_same (l2days_any _ _ _ (by have := of_decide_eq_true c0; omega) (by have := of_decide_eq_true c1; omega)))))
              cases c5 : decide (d ≤ dim y m)
              · repeat (go_big_quiet_step (fail))
                refine wpQuiet_nil ?_
                rintro _ ⟨nq, rfl⟩
                go_wp2
                go_ret
                exact ⟨ret_bool (vldB_no fun hv => by have := of_decide_eq_false c5; unfold vld at hv; omega), HB _ _⟩
              · repeat (go_big_quiet_step (fail))
                cases c6 : decide (0 ≤ h)
                · repeat (go_big_quiet_step (fail))
                  refine wpQuiet_nil ?_
                  rintro _ ⟨nq, rfl⟩
                  go_wp2
                  go_ret
                  exact ⟨ret_bool (vldB_no fun hv => by have := of_decide_eq_false c6; unfold vld at hv; omega), HB _ _⟩
                · repeat (go_big_quiet_step (fail))
                  cases c7 : decide (h ≤ 23)
                  · repeat (go_big_quiet_step (fail))
                    refine wpQuiet_nil ?_
                    rintro _ ⟨nq, rfl⟩
                    go_wp2
                    go_ret
                    exact ⟨ret_bool (vldB_no fun hv => by have := of_decide_eq_false c7; unfold vld at hv; omega), HB _ _⟩
                  · repeat (go_big_quiet_step (fail))
                    cases c8 : decide (0 ≤ i)
                    · repeat (go_big_quiet_step (fail))
                      refine wpQuiet_nil ?_
                      rintro _ ⟨nq, rfl⟩
                      go_wp2
                      go_ret
                      exact ⟨ret_bool (vldB_no fun hv => by have := of_decide_eq_false c8; unfold vld at hv; omega), HB _ _⟩
                    · repeat (go_big_quiet_step (fail))
                      cases c9 : decide (i ≤ 59)
                      · repeat (go_big_quiet_step (fail))
                        refine wpQuiet_nil ?_
                        rintro _ ⟨nq, rfl⟩
                        go_wp2
                        go_ret
                        exact ⟨ret_bool (vldB_no fun hv => by have := of_decide_eq_false c9; unfold vld at hv; omega), HB _ _⟩
                      · repeat (go_big_quiet_step (fail))
                        cases c10 : decide (0 ≤ s)
                        · repeat (go_big_quiet_step (fail))
                          refine wpQuiet_nil ?_
                          rintro _ ⟨nq, rfl⟩
                          go_wp2
                          go_ret
                          exact ⟨ret_bool (vldB_no fun hv => by have := of_decide_eq_false c10; unfold vld at hv; omega), HB _ _⟩
                        · repeat (go_big_quiet_step (fail))
                          cases c11 : decide (s ≤ 59)
                          · repeat (go_big_quiet_step (fail))
                            refine wpQuiet_nil ?_
                            rintro _ ⟨nq, rfl⟩
                            go_wp2
                            go_ret
                            exact ⟨ret_bool (vldB_no fun hv => by have := of_decide_eq_false c11; unfold vld at hv; omega), HB _ _⟩
                          · repeat (go_big_quiet_step (fail))
                            refine wpQuiet_nil ?_
                            rintro _ ⟨nq, rfl⟩
                            go_wp2
                            go_ret
                            exact ⟨ret_bool (vldB_iff.2 ⟨of_decide_eq_true c0, of_decide_eq_true c1, of_decide_eq_true c2, of_decide_eq_true c3, of_decide_eq_true c4, of_decide_eq_true c5, of_decide_eq_true c6, of_decide_eq_true c7, of_decide_eq_true c8, of_decide_eq_true c9, of_decide_eq_true c10, of_decide_eq_true c11⟩), HB _ _⟩
end Go.Proofs.YtenjbgpndkodmacGreatDoor
namespace Go.Proofs.YtenjbgpndkodmacGreatDoor
set_option linter.unusedVariables false
set_option linter.unusedSimpArgs false
open Go.RowKit

set_option maxHeartbeats 400000 in
theorem l2time_any (t : Int) (w : World) :
    Calls Tryz.prog 35 #[.int .i64 t] w fun e w' => e = .returned (.bool (timeB t)) ∧ w' = w := by
  by_cases h : 0 ≤ t
  · by_cases h' : t ≤ 253402300799
    · rw [show timeB t = true from timeB_iff.2 ⟨h, h'⟩]
      go_enter Tryz.func35, Tryz.ntmps35
      go_wp2
      go_ret
      exact ⟨rfl, rfl⟩
    · rw [show timeB t = false from timeB_no (by omega)]
      go_enter Tryz.func35, Tryz.ntmps35
      go_wp2
      go_ret
      exact ⟨rfl, rfl⟩
  · rw [show timeB t = false from timeB_no (by omega)]
    go_enter Tryz.func35, Tryz.ntmps35
    go_wp2
    go_ret
    exact ⟨rfl, rfl⟩
set_option maxHeartbeats 400000 in
theorem l2year_any (y : Int) (w : World) (h0 : 0 ≤ y) (h1 : y ≤ 10000) :
    Calls Tryz.prog 98 #[.int .i64 y] w fun e w' => e = .returned (.int .i64 (365 + lp y)) ∧ w' = w := by
  cases hl : leapB y
  · rw [lp_neg hl]
    go_enter Tryz.func98, Tryz.ntmps98
    go_wp2_with (go_at_call 127; refine (l2leap_any _ _ h0 h1).mono ?_; rintro e w' ⟨rfl, rfl⟩)
    go_ret
    exact ⟨rfl, rfl⟩
  · rw [lp_pos hl]
    go_enter Tryz.func98, Tryz.ntmps98
    go_wp2_with (go_at_call 127; refine (l2leap_any _ _ h0 h1).mono ?_; rintro e w' ⟨rfl, rfl⟩)
    go_ret
    exact ⟨rfl, rfl⟩
set_option maxHeartbeats 1000000 in
theorem sSecondsOf_no (y m d h i s : Int) (w : World) (hv : vldB y m d h i s = false) :
    Calls Tryz.prog 110 #[civ y m d h i s] w fun e w' => e = .returned (.tuple #[.int .i64 0, .bool false]) ∧ Below w.heap.size w w' := by
  go_enter Tryz.func110, Tryz.ntmps110
  go_wp2_with fail
  refine (sCivilOk_any y m d h i s _).mono ?_
  rintro e w1 ⟨rfl, hb1⟩
  have BW := below_then (below_a1 w _) hb1
  clear hb1
  go_wp2
  go_ret2
  exact ⟨rfl, BW⟩
set_option maxHeartbeats 2000000 in
theorem sSecondsOf_yes (y : Int) (m : Nat) (d h i s : Int) (w : World) (hv : vldB y m d h i s = true) :
    Calls Tryz.prog 110 #[civ y m d h i s] w fun e w' => e = .returned (.tuple #[.int .i64 (secs y m d h i s), .bool true]) ∧ Below w.heap.size w w' := by
  have hfin : Hid (secs y m d h i s = (((d - 1 + dby y + cum y m) * 24 + h) * 60 + i) * 60 + s) := by
    show _ = _
    unfold secs dnum; omega
  obtain ⟨v1, v2, v3, v4, v5, v6, v7, v8, v9, v10, v11, v12⟩ := vldB_iff.1 hv
  have hd := dby_bd v1 (by omega)
  have hdm := dim_bd y m
  go_enter Tryz.func110, Tryz.ntmps110
  go_wp2_with fail
  refine (sCivilOk_any y m d h i s _).mono ?_
  rintro e w1 ⟨rfl, hb1⟩
  have BW := below_then (below_a1 w _) hb1
  obtain ⟨hc1, hf1⟩ := bcell2 hb1
  have hc2 : ∀ o, w1.cell? ⟨w.heap.size, o, none⟩ = (w.alloc (.cells #[.int .i64 y, .int .i64 m, .int .i64 d, .int .i64 h, .int .i64 i, .int .i64 s] 91)).cell? ⟨w.heap.size, o, none⟩ := fun o => hc1 w.heap.size o (by simp)
  clear hb1 hf1 hc1
  go_wp2
  go_loop [4, 5] (fun dd kk => ∃ k : Int, 1970 ≤ k ∧ k ≤ y ∧ kk = .int .i64 k ∧ dd = .int .i64 (d - 1 + dby k)) (fun _ kk => (y - intOf kk).toNat)
  case atStart => exact ⟨1970, by omega, by omega, rfl, congrArg (Value.int .i64) (by rw [dby_1970]; omega)⟩
  case round =>
    obtain ⟨k, hk0, hk1, rfl, rfl⟩ := hrel
    have hkb := dby_bd hk0 (by omega)
    have hlp := lp_bd k
    by_cases hlt : k < y
    · have hs : Hid (dby (k + 1) = dby k + 365 + lp k) := dby_succ k
      go_wp2_with (go_at_call 98; refine (l2year_any _ _ (by omega) (by omega)).mono ?_; rintro e w' ⟨rfl, rfl⟩)
      go_round
      case rel => exact ⟨k + 1, by omega, by omega, rfl, congrArg (Value.int .i64) (by rw [hs.out]; omega)⟩
      case measure => simp [intOf]; omega
    · obtain rfl : k = y := by omega
      go_wp2
      go_loop [4, 6] (fun dd kk => ∃ j : Nat, 1 ≤ j ∧ j ≤ m ∧ kk = .int .i64 j ∧ dd = .int .i64 (d - 1 + dby k + cum k j)) (fun _ kk => m - (intOf kk).toNat)
      case atStart => exact ⟨1, by omega, by omega, rfl, congrArg (Value.int .i64) (by simp [cum])⟩
      case round =>
        obtain ⟨j, hj0, hj1, rfl, rfl⟩ := hrel
        have hcb := cum_bd k j
        have hdj := dim_bd k j
        by_cases hlt : j < m
        · have hs : Hid (cum k ((j : Int) + 1) = cum k j + dim k j) := cum_succ k j (by omega) (by omega)
          go_wp2_with (go_at_call 99; refine (l2days_any _ _ _ (by omega) (by omega)).mono ?_; rintro e w' ⟨rfl, rfl⟩)
          go_round
          case rel => exact ⟨j + 1, by omega, by omega, by go_num, congrArg (Value.int .i64) (by rw [show ((j + 1 : Nat) : Int) = (j : Int) + 1 by omega, hs.out]; omega)⟩
          case measure => simp [intOf]; omega
        · obtain rfl : j = m := by omega
          go_wp2
          go_ret2
          exact ⟨ret_ib2 (by rw [hfin.out]) rfl, BW⟩
set_option maxHeartbeats 1000000 in
theorem sCivilOf_no (t : Int) (w : World) (h : ¬ (0 ≤ t ∧ t ≤ 253402300799)) :
    Calls Tryz.prog 75 #[.int .i64 t] w fun e w' => e = .returned (.tuple #[civ 0 0 0 0 0 0, .bool false]) ∧ Below w.heap.size w w' := by
  have ht : timeB t = false := timeB_no h
  clear h
  go_enter Tryz.func75, Tryz.ntmps75
  go_wp2_with (go_at_call 35; refine (l2time_any _ _).mono ?_; rintro e w' ⟨rfl, rfl⟩)
  exact bodyPost_ret (v := .tuple #[civ 0 0 0 0 0 0, .bool false]) (by simp [results, Tryz.results75, go_sem]) rfl ⟨rfl, below_a1 _ _⟩
/-- The two blocks of spec.CivilOf, while it counts. -/
def cwd (w : World) (y m d h i s : Int) : World := (w.alloc (.cells #[.int .i64 0, .int .i64 0, .int .i64 0, .int .i64 0, .int .i64 0, .int .i64 0] 91)).alloc (.cells #[.int .i64 y, .int .i64 m, .int .i64 d, .int .i64 h, .int .i64 i, .int .i64 s] 91)
set_option maxHeartbeats 2000000 in
theorem sCivilOf_yes (t y : Int) (m : Nat) (d h i s : Int) (w : World) (hv : vld y m d h i s) (ht : t = secs y m d h i s) :
    Calls Tryz.prog 75 #[.int .i64 t] w fun e w' => e = .returned (.tuple #[civ y m d h i s, .bool true]) ∧ Below w.heap.size w w' := by
  have hb := secs_bd hv
  have hp := secs_parts hv
  rw [← ht] at hb hp
  have hT : timeB t = true := timeB_iff.2 hb
  have hy := fun k => year_iff hv k
  have hm := fun k => month_iff hv k
  obtain ⟨p1, p2, p3, p4, p5⟩ := hp
  have HC : Hid (t / 3600 % 24 = h ∧ t / 60 % 60 = i ∧ t % 60 = s) := ⟨p3, p4, p5⟩
  have HD : Hid (dnum y m d = dby y + cum y m + d - 1) := rfl
  have hlt := dnum_lt hv
  obtain ⟨v1, v2, v3, v4, v5, v6, _⟩ := hv
  rw [← p1] at hy hlt HD
  have hdb := dby_bd v1 (by omega)
  clear ht p2 p3 p4 p5
  have HY : Hid (∀ k, dby (k + 1) ≤ t / 86400 ↔ k < y) := hy
  have HM : Hid (∀ k, 1 ≤ k → k ≤ (m : Int) → (dim y k ≤ cum y m + d - 1 - cum y k ↔ k < m)) := hm
  clear hy hm p1
  go_enter Tryz.func75, Tryz.ntmps75
  go_wp2_with (go_at_call 35; refine (l2time_any _ _).mono ?_; rintro e w' ⟨rfl, rfl⟩)
  go_loopw [4] (fun dd wr => ∃ k : Int, 1970 ≤ k ∧ k ≤ y ∧ dd = .int .i64 (t / 86400 - dby k) ∧ wr = cwd w k 1 0 (t / 3600 % 24) (t / 60 % 60) (t % 60)) (fun _ wr => match wr.cell? ⟨w.heap.size + 1, 0, none⟩ with | some v => (y - intOf v).toNat | none => 0)
  case atStart => exact ⟨1970, by omega, by omega, congrArg (Value.int .i64) (by rw [dby_1970]; omega), rfl⟩
  case round =>
    obtain ⟨k, hk0, hk1, rfl, rfl⟩ := hrel
    have hkb := dby_bd hk0 (by omega)
    have hlp := lp_bd k
    have hs : Hid (dby (k + 1) = dby k + 365 + lp k) := dby_succ k
    unfold cwd
    by_cases hk : k < y
    · have hcond : 365 + lp k ≤ t / 86400 - dby k := by have := (HY.out k).2 hk; have := hs.out; omega
      go_wp2_with (go_at_call 98; refine (l2year_any _ _ (by omega) (by omega)).mono ?_; rintro e w' ⟨rfl, rfl⟩)
      go_roundw
      case rel => exact ⟨k + 1, by omega, by omega, congrArg (Value.int .i64) (by rw [hs.out]; omega), rfl⟩
      case measure => simp [intOf, cwd]; omega
    · obtain rfl : k = y := by omega
      have hcond : ¬ 365 + lp k ≤ t / 86400 - dby k := fun hh => absurd ((HY.out k).1 (by have := hs.out; omega)) (by omega)
      go_wp2_with (go_at_call 98; refine (l2year_any _ _ (by omega) (by omega)).mono ?_; rintro e w' ⟨rfl, rfl⟩)
      clear hcond
      go_loopw [4] (fun dd wr => ∃ j : Nat, 1 ≤ j ∧ j ≤ m ∧ dd = .int .i64 (t / 86400 - dby k - cum k j) ∧ wr = cwd w k j 0 (t / 3600 % 24) (t / 60 % 60) (t % 60)) (fun _ wr => match wr.cell? ⟨w.heap.size + 1, 1, none⟩ with | some v => m - (intOf v).toNat | none => 0)
      case atStart => exact ⟨1, by omega, by omega, congrArg (Value.int .i64) (by simp [cum]), rfl⟩
      case round =>
        obtain ⟨j, hj0, hj1, rfl, rfl⟩ := hrel
        have hcb := cum_bd k j
        have hdj := dim_bd k j
        have hiff : dim k j ≤ t / 86400 - dby k - cum k j ↔ j < m := by
          have := HM.out j (by omega) (by omega)
          have e := HD.out
          omega
        unfold cwd
        by_cases hj : j < m
        · have hs2 : Hid (cum k ((j : Int) + 1) = cum k j + dim k j) := cum_succ k j (by omega) (by omega)
          have hcond := hiff.2 hj
          clear hiff
          go_wp2_with (go_at_call 99; refine (l2days_any _ _ _ (by omega) (by omega)).mono ?_; rintro e w' ⟨rfl, rfl⟩)
          go_roundw
          case rel => exact ⟨j + 1, by omega, by omega, congrArg (Value.int .i64) (by rw [show ((j + 1 : Nat) : Int) = (j : Int) + 1 by omega, hs2.out]; omega), rfl⟩
          case measure => simp [intOf, cwd]; omega
        · obtain rfl : j = m := by omega
          have hcond : ¬ dim k j ≤ t / 86400 - dby k - cum k j := fun hh => hj (hiff.1 hh)
          clear hiff
          go_wp2_with (go_at_call 99; refine (l2days_any _ _ _ (by omega) (by omega)).mono ?_; rintro e w' ⟨rfl, rfl⟩)
          refine bodyPost_ret (v := .tuple #[civ k j (t / 86400 - dby k - cum k j + 1) (t / 3600 % 24) (t / 60 % 60) (t % 60), .bool true]) (by simp [results, Tryz.results75, go_sem]) rfl ⟨?_, below_a2 _ _ _⟩
          exact ret_civ rfl rfl (by have := HD.out; omega) HC.out.1 HC.out.2.1 HC.out.2.2 true
end Go.Proofs.YtenjbgpndkodmacGreatDoor
namespace Go.Proofs.YtenjbgpndkodmacGreatDoor
set_option linter.unusedVariables false
set_option linter.unusedSimpArgs false
open Go.RowKit

/-- What spec's l2pad has made, after j rounds. -/
def padB (n j : Nat) : ByteArray := ⟨(List.replicate j 48 ++ Lib.decDigits n).toArray⟩
theorem padB_zero (n : Nat) : padB n 0 = decB n := rfl
theorem padB_succ (n j : Nat) : padB n (j + 1) = ⟨#[48]⟩ ++ padB n j := by
  apply bytes_ext
  show _ = ((⟨#[48]⟩ : ByteArray) ++ padB n j).data.toList
  rw [ByteArray.data_append]
  simp [padB, List.replicate_succ]
theorem padB_size (n j : Nat) : (padB n j).size = j + (Lib.decDigits n).length := by
  show (List.replicate j 48 ++ Lib.decDigits n).toArray.size = _
  simp
theorem padB_end (n p j : Nat) (hp : 1 ≤ p) (hn : n < 10 ^ p) (hj : j = p - (Lib.decDigits n).length) : padB n j = digB n p := by
  obtain ⟨q, rfl⟩ : ∃ q, p = q + 1 := ⟨p - 1, by omega⟩
  have := padL_dec q n hn
  unfold padB digB
  rw [← this, hj]
  rfl
theorem digB_mod (y : Nat) : digB (y % 100) 2 = digB y 2 := by
  unfold digB
  congr 2
  simp only [digL]
  have e1 : y % 100 / 10 ^ 1 % 10 = y / 10 ^ 1 % 10 := by omega
  have e2 : y % 100 / 10 ^ 0 % 10 = y / 10 ^ 0 % 10 := by omega
  rw [e1, e2]
theorem bday_dec (d : Nat) (h : d < 10) : bday d = ⟨#[32]⟩ ++ decB d := by
  unfold bday
  rw [if_pos h, ← padB_zero, padB_end d 1 0 (by omega) (by omega) (by have := dec_len_le 0 d (by omega); have := List.length_pos_iff.2 (decDigits_ne_nil d); omega)]
theorem bday_two (d : Nat) (h : ¬ d < 10) : bday d = digB d 2 := by unfold bday; rw [if_neg h]
set_option maxHeartbeats 1000000 in
theorem l2pad_nat (n p : Nat) (w : World) (hp0 : 1 ≤ p) (hp : p ≤ 4) (hn : n < 10 ^ p) :
    Calls Tryz.prog 76 #[.int .i64 (n : Int), .int .i64 (p : Int)] w fun e w' => e = .returned (.string (digB n p)) ∧ Below w.heap.size w w' := by
  have hn' : n < 10000 := Nat.lt_of_lt_of_le hn (by have : 10 ^ p ≤ 10 ^ 4 := Nat.pow_le_pow_right (by decide) hp
                                                    simpa using this)
  have hlen : (Lib.decDigits n).length ≤ p := by
    obtain ⟨q, rfl⟩ : ∃ q, p = q + 1 := ⟨p - 1, by omega⟩
    exact dec_len_le q n hn
  have hfin := hideB2 (fun j => padB_end n p j hp0 hn)
  have HD := hideB2 (sDecText_nat n w (by omega))
  clear hn
  go_enter Tryz.func76, Tryz.ntmps76
  go_wp2_with fail
  refine HD.out.mono ?_
  rintro e w1 ⟨rfl, hb1⟩
  clear HD
  rw [← padB_zero]
  go_wp2
  go_loop [5] (fun ss => ∃ j : Nat, j + (Lib.decDigits n).length ≤ p ∧ ss = .string (padB n j)) (fun ss => match ss with | .string b => p - b.size | _ => 0)
  case atStart => exact ⟨0, by omega, rfl⟩
  case round =>
    obtain ⟨j, hj, rfl⟩ := hrel
    have hsz := padB_size n j
    by_cases hlt : j + (Lib.decDigits n).length < p
    · have hlt' : ((padB n j).size : Int) < (p : Int) := by omega
      have hup := hideB2 (padB_succ n j)
      have hsz2 := hideB2 (padB_size n (j + 1))
      have HS := hideB2 hsz
      have hb4 : (padB n j).size ≤ 4 := by omega
      clear hsz
      go_wp2
      go_round
      case rel => exact ⟨j + 1, by omega, by rw [hup.out]⟩
      case measure => rw [← hup.out]; show p - (padB n (j + 1)).size < p - (padB n j).size; rw [hsz2.out, HS.out]; omega
    · have hlt' : ¬ ((padB n j).size : Int) < (p : Int) := by omega
      clear hsz
      go_wp2
      go_ret
      exact ⟨ret_str (hfin.out j (by omega)).symm, hb1⟩
theorem l2pad_at (n : Nat) (p : Int) (w : World) (h0 : 1 ≤ p) (h1 : p ≤ 4) (hn : n < 10 ^ p.toNat) :
    Calls Tryz.prog 76 #[.int .i64 (n : Int), .int .i64 p] w fun e w' => e = .returned (.string (digB n p.toNat)) ∧ Below w.heap.size w w' := by
  obtain ⟨q, rfl⟩ := Int.eq_ofNat_of_zero_le (a := p) (by omega)
  exact l2pad_nat n q w (by omega) (by omega) (by simpa using hn)
set_option maxHeartbeats 1000000 in
theorem sStamp_no (t : Int) (w : World) (h : ¬ (0 ≤ t ∧ t ≤ 253402300799)) :
    Calls Tryz.prog 55 #[.int .i64 t] w fun e w' => e = .returned (.string ⟨#[]⟩) ∧ Below w.heap.size w w' := by
  go_enter Tryz.func55, Tryz.ntmps55
  go_wp2_with fail
  refine (sCivilOf_no t _ h).mono ?_
  rintro e w1 ⟨rfl, hb1⟩
  have BW := below_then hb1 (below_a1 w1 (.cells #[.int .i64 0, .int .i64 0, .int .i64 0, .int .i64 0, .int .i64 0, .int .i64 0] 91))
  clear hb1 h
  go_wp2
  go_ret
  exact ⟨rfl, BW⟩
set_option maxHeartbeats 4000000 in
theorem sStamp_yes (t : Int) (y m d h i s : Nat) (w : World) (hv : vld y m d h i s) (ht : t = secs y m d h i s) :
    Calls Tryz.prog 55 #[.int .i64 t] w fun e w' => e = .returned (.string (stampB y m d h i s)) ∧ Below w.heap.size w w' := by
  have HH := hideB2 (sCivilOf_yes t y m d h i s w hv ht)
  have hb := secs_bd hv
  rw [← ht] at hb
  obtain ⟨ht0, ht1⟩ := hb
  have hdm := dim_bd y m
  obtain ⟨v1, v2, v3, v4, v5, v6, v7, v8, v9, v10, v11, v12⟩ := hv
  have hsz := digB_size
  have hcz := clockB_size h i s
  have hmz := monB_size (k := m) (by omega) (by omega)
  have hwd := wdN_lt t
  have hdz : ((dayB (wdN t)).extract 0 3).size = 3 := dayS_size hwd
  have hbz := bday_size d
  have hDz := dayB_size hwd
  have hD1 : ((dayB (wdN t)).size : Int) ≤ 9 := by omega
  have hD2 : (6 : Int) ≤ ((dayB (wdN t)).size : Int) := by omega
  clear ht hDz
  go_enter Tryz.func55, Tryz.ntmps55
  go_wp2_with fail
  refine HH.out.mono ?_
  rintro e w1 ⟨rfl, hb1⟩
  have BW := below_then hb1 (below_a1 w1 (.cells #[.int .i64 y, .int .i64 m, .int .i64 d, .int .i64 h, .int .i64 i, .int .i64 s] 91))
  have gc := civAt_new w1 y m d h i s 91
  clear hb1 HH
  go_wp2_with fail
  generalize w1.alloc (.cells #[.int .i64 y, .int .i64 m, .int .i64 d, .int .i64 h, .int .i64 i, .int .i64 s] 91) = W at *
  obtain ⟨g0, g1, g2, g3, g4, g5⟩ := gc.grw
  clear gc
  refine wp_region_grow ?_ ?_ ?_
  · kernel_rfl
  · kernel_rfl
  · intro hne
    repeat (go_big_quiet_step (first
      | (go_at_call 76; exact grow_call (l2pad_at _ _ _ (by omega) (by omega) (by simp; omega)))))
    refine wpQuiet_nil ?_
    rintro _ ⟨V, rfl⟩
    have hb := below_then BW (grw_below W V)
    clear g0 g1 g2 g3 g4 g5
    go_wp2
    go_ret
    exact ⟨rfl, hb⟩
end Go.Proofs.YtenjbgpndkodmacGreatDoor
namespace Go.Proofs.YtenjbgpndkodmacGreatDoor
set_option linter.unusedVariables false
set_option linter.unusedSimpArgs false
open Go.RowKit

theorem dv_yes {b : UInt8} (h : dig8 b = true) : dv b = b.toNat - 48 := by unfold dv; rw [if_pos h]
theorem dv_no {b : UInt8} (h : dig8 b = false) : dv b = 0 := by unfold dv; rw [if_neg (by rw [h]; decide)]
set_option maxHeartbeats 1000000 in
theorem number_any (s : ByteArray) (w : World) (hs : s.size ≤ 8) :
    Calls Tryz.prog 150 #[.string s] w fun e w' => e = .returned (.int .i64 ((nval s : Nat) : Int)) ∧ w' = w := by
  go_enter Tryz.func150, Tryz.ntmps150
  go_wp2
  go_loop [3, 7] (fun n i => ∃ k : Nat, k ≤ s.size ∧ i = .int .i64 k ∧ n = .int .i64 ((valN (s.data.toList.take k) : Nat) : Int)) (fun _ i => s.size - (intOf i).toNat)
  case atStart => exact ⟨0, Nat.zero_le _, rfl, rfl⟩
  case round =>
    obtain ⟨k, hk, rfl, rfl⟩ := hrel
    have hvl : valN (s.data.toList.take k) < 100000000 := by
      have h1 := valN_lt (s.data.toList.take k)
      have h3 : 10 ^ (s.data.toList.take k).length ≤ 10 ^ 8 := Nat.pow_le_pow_right (by decide) (by simp; omega)
      have h4 : (10 : Nat) ^ 8 = 100000000 := by decide
      omega
    by_cases hlt : k < s.size
    · have hval : Hid (valN (s.data.toList.take (k + 1)) = valN (s.data.toList.take k) * 10 + dv (at8 s k)) := by
        show _ = _
        rw [allDig_take_succ s k hlt, valN_snoc]
      cases hg0 : dig8 (at8 s k)
      · have hg : digP (s[k].toNat : Int) = false := by rw [at8_eq s k hlt]; exact hg0
        have hdv := hideB2 (dv_no hg0)
        clear hg0
        generalize valN (s.data.toList.take k) = v at *
        go_wp2_with (go_at_call 120; refine (digitByte_any _ _).mono ?_; rintro e w' ⟨rfl, rfl⟩)
        go_round
        case rel => exact ⟨k + 1, by omega, by go_num, congrArg (Value.int .i64) (by rw [hval.out, hdv.out]; omega)⟩
        case measure => simp [intOf]; omega
      · have hg : digP (s[k].toNat : Int) = true := by rw [at8_eq s k hlt]; exact hg0
        have hb := (dig8_iff _).1 hg0
        have hdv : Hid (dv (at8 s k) = s[k].toNat - 48) := by show _ = _; rw [dv_yes hg0, at8_eq s k hlt]
        have hb1 : 48 ≤ s[k].toNat := by rw [at8_eq s k hlt]; exact hb.1
        have hb2 : s[k].toNat ≤ 57 := by rw [at8_eq s k hlt]; exact hb.2
        clear hg0 hb
        generalize valN (s.data.toList.take k) = v at *
        go_wp2_with (go_at_call 120; refine (digitByte_any _ _).mono ?_; rintro e w' ⟨rfl, rfl⟩)
        go_round
        case rel => exact ⟨k + 1, by omega, by go_num, congrArg (Value.int .i64) (by rw [hval.out, hdv.out]; omega)⟩
        case measure => simp [intOf]; omega
    · obtain rfl : k = s.size := by omega
      have ht : s.data.toList.take s.size = s.data.toList := List.take_of_length_le (by rw [len_data]; exact Nat.le_refl _)
      rw [ht]
      have hfin : Hid (((nval s : Nat) : Int) = ((valN s.data.toList : Nat) : Int)) := rfl
      clear ht hvl
      generalize valN s.data.toList = v at *
      go_wp2
      go_ret
      exact ⟨ret_int hfin.out, rfl⟩
end Go.Proofs.YtenjbgpndkodmacGreatDoor
namespace Go.Proofs.YtenjbgpndkodmacGreatDoor
set_option linter.unusedVariables false
set_option linter.unusedSimpArgs false
open Go.RowKit
theorem below_a4 (w : World) (o o' o'' p : Obj) : Below w.heap.size w ((((w.alloc o).alloc o').alloc o'').alloc p) := (below_a3 w o o' o'').alloc (by simp; omega) p
set_option maxHeartbeats 1000000 in
theorem stampParts_no (s : ByteArray) (w : World) (hs : s.size ≠ 14) :
    Calls Tryz.prog 119 #[.string s] w fun e w' => e = .returned (civ 0 0 0 0 0 0) ∧ Below w.heap.size w w' := by
  have hb : ((s.size : Int) != 14) = true := by rw [bne_iff_ne]; omega
  clear hs
  go_enter Tryz.func119, Tryz.ntmps119
  go_wp2
  exact bodyPost_ret (v := civ 0 0 0 0 0 0) (by simp [results, Tryz.results119, go_sem]) rfl ⟨rfl, below_a1 _ _⟩
set_option maxHeartbeats 4000000 in
theorem stampParts_yes (s : ByteArray) (w : World) (hs : s.size = 14) :
    Calls Tryz.prog 119 #[.string s] w fun e w' => e = .returned (civ (nval (s.extract 0 4)) (nval (s.extract 4 6)) (nval (s.extract 6 8)) (nval (s.extract 8 10)) (nval (s.extract 10 12)) (nval (s.extract 12 14))) ∧ Below w.heap.size w w' := by
  have e0 : (s.extract 0 4).size ≤ 8 := by rw [ext_size s 0 4 (by omega) (by omega)]; omega
  have e1 : (s.extract 4 6).size ≤ 8 := by rw [ext_size s 4 6 (by omega) (by omega)]; omega
  have e2 : (s.extract 6 8).size ≤ 8 := by rw [ext_size s 6 8 (by omega) (by omega)]; omega
  have e3 : (s.extract 8 10).size ≤ 8 := by rw [ext_size s 8 10 (by omega) (by omega)]; omega
  have e4 : (s.extract 10 12).size ≤ 8 := by rw [ext_size s 10 12 (by omega) (by omega)]; omega
  have e5 : (s.extract 12 14).size ≤ 8 := by rw [ext_size s 12 14 (by omega) (by omega)]; omega
  go_enter Tryz.func119, Tryz.ntmps119
  go_wp2
  go_region_with (go_at_call 150; refine (number_any _ _ (by assumption)).mono ?_; rintro e w' ⟨rfl, rfl⟩)
  all_goals
    go_wp2
    exact bodyPost_ret (v := civ (nval (s.extract 0 4)) (nval (s.extract 4 6)) (nval (s.extract 6 8)) (nval (s.extract 8 10)) (nval (s.extract 10 12)) (nval (s.extract 12 14))) (by simp [results, Tryz.results119, go_sem]) rfl ⟨rfl, (below_a1 _ _).drew⟩
end Go.Proofs.YtenjbgpndkodmacGreatDoor
namespace Go.Proofs.YtenjbgpndkodmacGreatDoor
set_option linter.unusedVariables false
set_option linter.unusedSimpArgs false
open Go.RowKit
/-- A text and a day and hour lie at the head of block b. -/
def WrtAt (W : World) (b : Nat) (a : ByteArray) (y m d h i s : Int) : Prop :=
  W.cell? ⟨b, 0, none⟩ = some (.string a) ∧ W.cell? ⟨b, 1, none⟩ = some (.int .i64 y) ∧ W.cell? ⟨b, 2, none⟩ = some (.int .i64 m) ∧ W.cell? ⟨b, 3, none⟩ = some (.int .i64 d) ∧ W.cell? ⟨b, 4, none⟩ = some (.int .i64 h) ∧ W.cell? ⟨b, 5, none⟩ = some (.int .i64 i) ∧ W.cell? ⟨b, 6, none⟩ = some (.int .i64 s)
theorem wrtAt_new (w : World) (a : ByteArray) (y m d h i s : Int) (T : TypeId) : WrtAt (w.alloc (.cells #[.string a, .int .i64 y, .int .i64 m, .int .i64 d, .int .i64 h, .int .i64 i, .int .i64 s] T)) w.heap.size a y m d h i s := by
  unfold WrtAt
  simp [go_sem]
theorem WrtAt.grw {W : World} {b : Nat} {a : ByteArray} {y m d h i s : Int} (k : WrtAt W b a y m d h i s) : (∀ V, (grw W V).cell? ⟨b, 0, none⟩ = some (.string a)) ∧ (∀ V, (grw W V).cell? ⟨b, 1, none⟩ = some (.int .i64 y)) ∧ (∀ V, (grw W V).cell? ⟨b, 2, none⟩ = some (.int .i64 m)) ∧ (∀ V, (grw W V).cell? ⟨b, 3, none⟩ = some (.int .i64 d)) ∧ (∀ V, (grw W V).cell? ⟨b, 4, none⟩ = some (.int .i64 h)) ∧ (∀ V, (grw W V).cell? ⟨b, 5, none⟩ = some (.int .i64 i)) ∧ (∀ V, (grw W V).cell? ⟨b, 6, none⟩ = some (.int .i64 s)) :=
  ⟨grw_some k.1, grw_some k.2.1, grw_some k.2.2.1, grw_some k.2.2.2.1, grw_some k.2.2.2.2.1, grw_some k.2.2.2.2.2.1, grw_some k.2.2.2.2.2.2⟩
set_option maxHeartbeats 2000000 in
theorem timeWrittenStamp_no (a : ByteArray) (y m d h i s : Int) (w : World) (hM : MonTab w) (hv : vldB y m d h i s = false) :
    Calls Tryz.prog 118 #[.string a, civ y m d h i s, .func (.func 59) #[] #[]] w fun e w' => e = .returned (.tuple #[.int .i64 0, .bool false]) ∧ Below w.heap.size w w' := by
  have HH := hideB2 (fun o => SecondsOf_no y m d h i s (w.alloc o) (hM.alloc o) hv)
  clear hM hv
  go_enter Tryz.func118, Tryz.ntmps118
  go_wp2_with fail
  refine (HH.out _).mono ?_
  rintro e w1 ⟨rfl, hb1⟩
  have BW := below_then (below_a1 w _) hb1
  clear hb1 HH
  go_wp2
  go_ret2
  exact ⟨rfl, BW⟩
set_option maxHeartbeats 4000000 in
theorem timeWrittenStamp_yes (a x : ByteArray) (y m d h i s : Nat) (t : Int) (w : World) (hM : MonTab w) (hv : vld y m d h i s) (ht : t = secs y m d h i s)
    (hf : ∀ W, Below w.heap.size w W → Calls Tryz.prog 59 #[.int .i64 t] W fun e w' => e = .returned (.string x) ∧ Below W.heap.size W w') :
    Calls Tryz.prog 118 #[.string a, civ y m d h i s, .func (.func 59) #[] #[]] w fun e w' => e = .returned (.tuple #[.int .i64 (rdT a x t), .bool (eqB a x)]) ∧ Below w.heap.size w w' := by
  have HH := hideB2 (fun o => SecondsOf_yes y m d h i s (w.alloc o) (hM.alloc o) (vldB_iff.2 hv))
  have HC := hideB2 (fun W hW => CivilOf_yes t y m d h i s W hW hv ht)
  have HF := hideB2 hf
  rw [← ht] at HH
  clear hf hv ht
  go_enter Tryz.func118, Tryz.ntmps118
  go_wp2_with fail
  refine (HH.out _).mono ?_
  rintro e w1 ⟨rfl, hb1⟩
  have BW := below_then (below_a1 w _) hb1
  have gc := (civAt_new w y m d h i s 91).below hb1
  have hM1 := hM.below BW
  clear hb1 HH hM
  go_wp2_with fail
  refine (HC.out _ hM1).mono ?_
  rintro e w2 ⟨rfl, hb2⟩
  have gc2 := gc.below hb2
  have BW2 := below_then BW hb2
  clear gc BW hb2 hM1 HC
  have hz : w.heap.size < w2.heap.size := World.block_lt_of_cell? _ _ gc2.1
  have gc3 := fun o => gc2.below (below_a1 w2 o)
  have c0 := fun o => (gc3 o).1
  have c1 := fun o => (gc3 o).2.1
  have c2 := fun o => (gc3 o).2.2.1
  have c3 := fun o => (gc3 o).2.2.2.1
  have c4 := fun o => (gc3 o).2.2.2.2.1
  have c5 := fun o => (gc3 o).2.2.2.2.2
  clear gc2 gc3
  go_wp2_with fail
  have hA := below_a2 w2 (.cells #[.int .i64 y, .int .i64 m, .int .i64 d, .int .i64 h, .int .i64 i, .int .i64 s] 91) (.cells #[.string a, .int .i64 y, .int .i64 m, .int .i64 d, .int .i64 h, .int .i64 i, .int .i64 s] 129)
  have k1 := civAt_new w2 y m d h i s 91 |>.below (below_a1 _ (.cells #[.string a, .int .i64 y, .int .i64 m, .int .i64 d, .int .i64 h, .int .i64 i, .int .i64 s] 129))
  have k2 := wrtAt_new (w2.alloc (.cells #[.int .i64 y, .int .i64 m, .int .i64 d, .int .i64 h, .int .i64 i, .int .i64 s] 91)) a y m d h i s 129
  rw [show (w2.alloc (.cells #[.int .i64 y, .int .i64 m, .int .i64 d, .int .i64 h, .int .i64 i, .int .i64 s] 91)).heap.size = w2.heap.size + 1 by simp] at k2
  clear c0 c1 c2 c3 c4 c5
  generalize (w2.alloc (.cells #[.int .i64 y, .int .i64 m, .int .i64 d, .int .i64 h, .int .i64 i, .int .i64 s] 91)).alloc (.cells #[.string a, .int .i64 y, .int .i64 m, .int .i64 d, .int .i64 h, .int .i64 i, .int .i64 s] 129) = W at *
  have BW3 := below_then BW2 hA
  obtain ⟨g0, g1, g2, g3, g4, g5⟩ := k1.grw
  obtain ⟨q0, q1, q2, q3, q4, q5, q6⟩ := k2.grw
  clear k1 k2 BW2 hA hz
  cases he : eqB a x
  · have HE : Hid (rdT a x t = 0 ∧ eqB a x = false) := ⟨by unfold rdT; rw [he]; rfl, he⟩
    unfold eqB at he
    refine wp_region_grow ?_ ?_ ?_
    · kernel_rfl
    · kernel_rfl
    · intro hne
      repeat (go_big_quiet_step ((exact grow_call (HF.out _ (below_then BW3 (grw_below W _))))))
      refine wpQuiet_nil ?_
      rintro _ ⟨V, rfl⟩
      have hb := below_then BW3 (grw_below W V)
      clear g0 g1 g2 g3 g4 g5 q0 q1 q2 q3 q4 q5 q6 HF
      go_wp2
      go_ret2
      exact ⟨ret_ib2 HE.out.1 HE.out.2, hb⟩
  · have HE : Hid (rdT a x t = t ∧ eqB a x = true) := ⟨by unfold rdT; rw [he]; rfl, he⟩
    unfold eqB at he
    refine wp_region_grow ?_ ?_ ?_
    · kernel_rfl
    · kernel_rfl
    · intro hne
      repeat (go_big_quiet_step ((exact grow_call (HF.out _ (below_then BW3 (grw_below W _))))))
      refine wpQuiet_nil ?_
      rintro _ ⟨V, rfl⟩
      have hb := below_then BW3 (grw_below W V)
      clear g0 g1 g2 g3 g4 g5 q0 q1 q2 q3 q4 q5 q6 HF
      go_wp2
      go_ret2
      exact ⟨ret_ib2 HE.out.1 HE.out.2, hb⟩
end Go.Proofs.YtenjbgpndkodmacGreatDoor
namespace Go.Proofs.YtenjbgpndkodmacGreatDoor
set_option linter.unusedVariables false
set_option linter.unusedSimpArgs false
open Go.RowKit
set_option maxHeartbeats 1000000 in
theorem ReadStamp_at (a : ByteArray) (Y M D H I S t : Int) (b : Bool) (w : World) (hM : MonTab w)
    (hp : ∀ w, Calls Tryz.prog 119 #[.string a] w fun e w' => e = .returned (civ Y M D H I S) ∧ Below w.heap.size w w')
    (ht : ∀ w, MonTab w → Calls Tryz.prog 118 #[.string a, civ Y M D H I S, .func (.func 59) #[] #[]] w fun e w' => e = .returned (.tuple #[.int .i64 t, .bool b]) ∧ Below w.heap.size w w') :
    Calls Tryz.prog 91 #[.string a] w fun e w' => e = .returned (.tuple #[.int .i64 t, .bool b]) ∧ Below w.heap.size w w' := by
  have HP := hideB2 hp
  have HT := hideB2 ht
  clear hp ht
  go_enter Tryz.func91, Tryz.ntmps91
  go_wp2_with fail
  refine (HP.out _).mono ?_
  rintro e w1 ⟨rfl, hb1⟩
  have hM1 := hM.below hb1
  go_wp2_with fail
  refine (HT.out _ hM1).mono ?_
  rintro e w2 ⟨rfl, hb2⟩
  have hb := below_then hb1 hb2
  clear hb1 hb2 hM hM1 HP HT
  go_wp2
  go_ret2
  exact ⟨rfl, hb⟩
theorem ReadStamp_ex (a : ByteArray) : ∃ t b, Res (IsF 9999 stampF a) t b ∧ ∀ w, MonTab w → Calls Tryz.prog 91 #[.string a] w fun e w' => e = .returned (.tuple #[.int .i64 t, .bool b]) ∧ Below w.heap.size w w' := by
  by_cases hsz : a.size = 14
  · have hr := stamp_reads a
    have hp := fun w => stampParts_yes a w hsz
    cases hv : vldB (nval (a.extract 0 4)) (nval (a.extract 4 6)) (nval (a.extract 6 8)) (nval (a.extract 8 10)) (nval (a.extract 10 12)) (nval (a.extract 12 14))
    · exact ⟨0, false, .inr ⟨rfl, rfl, hr.none_of hv⟩, fun w hM => ReadStamp_at a _ _ _ _ _ _ 0 false w hM hp (fun w hM => timeWrittenStamp_no a _ _ _ _ _ _ w hM hv)⟩
    · obtain ⟨y, m, d, h, i, s, e1, e2, e3, e4, e5, e6, v⟩ := nats_of hv
      rw [e1, e2, e3, e4, e5, e6] at hr
      have hp' : ∀ w, Calls Tryz.prog 119 #[.string a] w fun e w' => e = .returned (civ y m d h i s) ∧ Below w.heap.size w w' := by
        intro w
        have := hp w
        rw [e1, e2, e3, e4, e5, e6] at this
        exact this
      have ht := fun w (hM : MonTab w) => timeWrittenStamp_yes a (stampB y m d h i s) y m d h i s _ w hM v rfl (fun W hW => Stamp_yes _ y m d h i s W (hM.below hW) v rfl)
      have hC := fun w hM => ReadStamp_at a _ _ _ _ _ _ _ _ w hM hp' ht
      cases he : eqB a (stampB y m d h i s)
      · refine ⟨0, false, .inr ⟨rfl, rfl, hr.none_ne fun hh => ?_⟩, fun w hM => ?_⟩
        · rw [hh] at he
          have := eqB_self (stampB y m d h i s)
          unfold stampF at he
          rw [this] at he
          cases he
        · have h' := hC w hM
          rw [he, show rdT a (stampB y m d h i s) (secs y m d h i s) = 0 by unfold rdT; rw [he]; rfl] at h'
          exact h'
      · refine ⟨secs y m d h i s, true, .inl ⟨rfl, y, m, d, h, i, s, v, by have := (vbd v).2.1; omega, rfl, eqB_iff.1 he⟩, fun w hM => ?_⟩
        have h' := hC w hM
        rw [he, show rdT a (stampB y m d h i s) (secs y m d h i s) = secs y m d h i s by unfold rdT; rw [he]; rfl] at h'
        exact h'
  · have hp := fun w => stampParts_no a w hsz
    exact ⟨0, false, .inr ⟨rfl, rfl, fun t ⟨y, m, d, h, i, s, _, _, _, ea⟩ => hsz (by rw [ea]; exact stamp_size _ _ _ _ _ _)⟩, fun w hM => ReadStamp_at a _ _ _ _ _ _ 0 false w hM hp (fun w hM => timeWrittenStamp_no a 0 0 0 0 0 0 w hM (by decide))⟩
end Go.Proofs.YtenjbgpndkodmacGreatDoor
namespace Go.Proofs.YtenjbgpndkodmacGreatDoor
set_option linter.unusedVariables false
set_option linter.unusedSimpArgs false
open Go.RowKit
end Go.Proofs.YtenjbgpndkodmacGreatDoor
