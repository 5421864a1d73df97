/-
  Chapter 9: which of two lines is ahead; both sides.
-/
import Derived.Test.YtenjbgpndkodmabN4
import Derived.Test.YtenjbgpndkodmabGR
namespace Go.Proofs.Ytenjbgpndkodmab
set_option linter.unusedVariables false
set_option linter.unusedSimpArgs false
open Go.RowKit
theorem not_lt_self (n : Int) : (n != n) = false := by simp
set_option maxRecDepth 100000 in
theorem nanI_any (n : Int) (w : World) : Calls Try.prog 13 #[.int .i64 n] w fun e w' => e = .returned (.bool false) ∧ w' = w := by
  go_enter Try.func13, Try.ntmps13
  go_wp2
  go_ret
  exact ⟨rfl, rfl⟩
set_option maxRecDepth 100000 in
theorem nanS_any (s : ByteArray) (w : World) : Calls Try.prog 14 #[.string s] w fun e w' => e = .returned (.bool false) ∧ w' = w := by
  have h : (s.toList == s.toList) = true := by simp
  go_enter Try.func14, Try.ntmps14
  go_wp2
  go_ret
  exact ⟨rfl, rfl⟩
set_option maxRecDepth 100000 in
theorem CompareI_any (a b : Int) (w : World) : Calls Try.prog 11 #[.int .i64 a, .int .i64 b] w fun e w' => e = .returned (.int .i64 (sgn3 a b)) ∧ w' = w := by
  rcases sgn3_cases a b with ⟨e, h⟩ | ⟨e, h⟩ | ⟨e, h⟩
  all_goals
    rw [e]
    have HE := hideB2 e
    clear e
    try subst h
    go_enter Try.func11, Try.ntmps11
    go_wp2_with (go_at_call 13; refine (nanI_any _ _).mono ?_; rintro e w' ⟨rfl, rfl⟩)
    go_ret
    exact ⟨rfl, rfl⟩
set_option maxRecDepth 100000 in
theorem CompareS_any (a b : ByteArray) (w : World) : Calls Try.prog 12 #[.string a, .string b] w fun e w' => e = .returned (.int .i64 (kes a b)) ∧ w' = w := by
  rcases kes_cases a b with ⟨e, h⟩ | ⟨e, h⟩ | ⟨e, h⟩
  · rw [e]
    have HE := hideB2 e
    clear e
    go_enter Try.func12, Try.ntmps12
    go_wp2_with (go_at_call 14; refine (nanS_any _ _).mono ?_; rintro e w' ⟨rfl, rfl⟩)
    go_ret
    exact ⟨rfl, rfl⟩
  · rw [e]
    have HE := hideB2 e
    have h2 := bl_asym h
    have h3 : (a.toList == b.toList) = false := by
      cases h4 : (a.toList == b.toList)
      · rfl
      · rw [eq_of_beq h4, bl_irr] at h; cases h
    clear e
    go_enter Try.func12, Try.ntmps12
    go_wp2_with (go_at_call 14; refine (nanS_any _ _).mono ?_; rintro e w' ⟨rfl, rfl⟩)
    go_ret
    exact ⟨rfl, rfl⟩
  · rw [e]
    subst h
    have HE := hideB2 e
    have h2 := bl_irr a.toList
    have h3 : (a.toList == a.toList) = true := by simp
    clear e
    go_enter Try.func12, Try.ntmps12
    go_wp2_with (go_at_call 14; refine (nanS_any _ _).mono ?_; rintro e w' ⟨rfl, rfl⟩)
    go_ret
    exact ⟨rfl, rfl⟩
set_option maxRecDepth 100000 in
set_option maxHeartbeats 1000000 in
theorem compareKey_any (x : Lx) (key : ByteArray) (w : World) :
    Calls Try.prog 10 #[lxV x, .string key] w fun e w' => e = .returned (.int .i64 (kes x.ke key)) ∧ Below w.heap.size w w' := by
  obtain ⟨ke, ti, si, me, st, la, rv, se, wh, sz⟩ := x
  unfold lxV
  simp only
  have HC := hideB2 (fun W => CompareS_any ke key W)
  generalize kes ke key = r at *
  go_enter Try.func10, Try.ntmps10
  go_wp2_with (go_at_call 12; refine (HC.out _).mono ?_; rintro e w' ⟨rfl, rfl⟩)
  go_ret
  exact ⟨rfl, below_a1 w _⟩
set_option maxRecDepth 100000 in
set_option maxHeartbeats 1000000 in
theorem Or4_any (a b c d : Int) (g : Nat) (w : World) (hb : Blk w g #[.int .i64 a, .int .i64 b, .int .i64 c, .int .i64 d] 3) :
    Calls Try.prog 9 #[.slice (some ⟨g, 0, none⟩) 4 4] w fun e w' => e = .returned (.int .i64 (or4 a b c d)) ∧ w' = w := by
  have p0 := hb.cell 0
  have p1 := hb.cell 1
  have p2 := hb.cell 2
  have p3 := hb.cell 3
  simp only [List.getElem?_toArray, List.getElem?_cons_zero, List.getElem?_cons_succ] at p0 p1 p2 p3
  unfold or4
  clear hb
  go_enter Try.func9, Try.ntmps9
  go_wp2
  go_loopw [8] (fun i wr => wr = w ∧ ((i = .int .i64 0) ∨ (i = .int .i64 1 ∧ a = 0) ∨ (i = .int .i64 2 ∧ a = 0 ∧ b = 0) ∨ (i = .int .i64 3 ∧ a = 0 ∧ b = 0 ∧ c = 0) ∨ (i = .int .i64 4 ∧ a = 0 ∧ b = 0 ∧ c = 0 ∧ d = 0))) (fun i _ => 4 - (intOf i).toNat)
  case atStart => exact ⟨rfl, .inl rfl⟩
  case round =>
    obtain ⟨rfl, hr⟩ := hrel
    rcases hr with rfl | ⟨rfl, ha⟩ | ⟨rfl, ha, hb⟩ | ⟨rfl, ha, hb, hc⟩ | ⟨rfl, ha, hb, hc, hd⟩
    · by_cases h : a = 0
      · go_wp2
        exact ⟨⟨by trivial, .inr (.inl ⟨by go_num, h⟩)⟩, by simp [intOf]⟩
      · have hn : (a != 0) = true := by simpa using h
        go_wp2
        go_ret
        exact ⟨ret_int (by first | rfl | simp [*]), rfl⟩
    · have H1 := hideB2 ha
      by_cases h : b = 0
      · go_wp2
        exact ⟨⟨by trivial, .inr (.inr (.inl ⟨by go_num, H1.out, h⟩))⟩, by simp [intOf]⟩
      · have hn : (b != 0) = true := by simpa using h
        go_wp2
        go_ret
        exact ⟨ret_int (by first | rfl | simp [H1.out] | simp [H1.out, H2.out] | simp [H1.out, H2.out, H3.out] | simp [H1.out, H2.out, H3.out, H4.out]), rfl⟩
    · have H1 := hideB2 ha
      have H2 := hideB2 hb
      by_cases h : c = 0
      · go_wp2
        exact ⟨⟨by trivial, .inr (.inr (.inr (.inl ⟨by go_num, H1.out, H2.out, h⟩)))⟩, by simp [intOf]⟩
      · have hn : (c != 0) = true := by simpa using h
        go_wp2
        go_ret
        exact ⟨ret_int (by first | rfl | simp [H1.out] | simp [H1.out, H2.out] | simp [H1.out, H2.out, H3.out] | simp [H1.out, H2.out, H3.out, H4.out]), rfl⟩
    · have H1 := hideB2 ha
      have H2 := hideB2 hb
      have H3 := hideB2 hc
      by_cases h : d = 0
      · go_wp2
        exact ⟨⟨by trivial, .inr (.inr (.inr (.inr ⟨by go_num, H1.out, H2.out, H3.out, h⟩)))⟩, by simp [intOf]⟩
      · have hn : (d != 0) = true := by simpa using h
        go_wp2
        go_ret
        exact ⟨ret_int (by first | rfl | simp [H1.out] | simp [H1.out, H2.out] | simp [H1.out, H2.out, H3.out] | simp [H1.out, H2.out, H3.out, H4.out]), rfl⟩
    · have H1 := hideB2 ha
      have H2 := hideB2 hb
      have H3 := hideB2 hc
      have H4 := hideB2 hd
      clear ha hb hc hd
      go_wp2
      go_ret
      exact ⟨ret_int (by first | rfl | simp [H1.out] | simp [H1.out, H2.out] | simp [H1.out, H2.out, H3.out] | simp [H1.out, H2.out, H3.out, H4.out]), rfl⟩
set_option maxRecDepth 100000 in
set_option maxHeartbeats 4000000 in
theorem Compare_any (x y : Lx) (w : World) :
    Calls Try.prog 7 #[lxV x, lxV y] w fun e w' => e = .returned (.int .i64 (cmpX x y)) ∧ Below w.heap.size w w' := by
  have HK := hideB2 (fun W => compareKey_any x y.ke W)
  unfold cmpX
  have HOR := hideB2 (fun g W => Or4_any (kes x.ke y.ke) (sgn3 x.ti y.ti) (sgn3 x.se y.se) (sgn3 x.wh y.wh) g W)
  generalize or4 (kes x.ke y.ke) (sgn3 x.ti y.ti) (sgn3 x.se y.se) (sgn3 x.wh y.wh) = r at *
  generalize kes x.ke y.ke = k1 at *
  have HB2 := hideB2 (below_a2 w (.cells (lxC x) 26) (.cells (lxC y) 26))
  have B1 := (Blk.new w (lxC x) 26).alloc (.cells (lxC y) 26)
  have B2 := Blk.new (w.alloc (.cells (lxC x) 26)) (lxC y) 26
  rw [show (w.alloc (.cells (lxC x) 26)).heap.size = w.heap.size + 1 by simp] at B2
  obtain ⟨ke, ti, si, me, st, la, rv, se, wh, sz⟩ := x
  obtain ⟨yke, yti, ysi, yme, yst, yla, yrv, yse, ywh, ysz⟩ := y
  unfold lxV at *
  unfold lxC at *
  simp only at *
  go_enter Try.func7, Try.ntmps7
  go_wp2_with fail
  generalize (w.alloc (.cells #[.string ke, .int .i64 ti, .int .i64 si, .string me, .int .i64 st, .string la, .bool rv, .int .i64 se, .int .i64 wh, .int .i64 sz] 26)).alloc (.cells #[.string yke, .int .i64 yti, .int .i64 ysi, .string yme, .int .i64 yst, .string yla, .bool yrv, .int .i64 yse, .int .i64 ywh, .int .i64 ysz] 26) = W at *
  obtain ⟨p0, p1, p2, p3, p4, p5, p6, p7, p8, p9⟩ := B1.c10
  obtain ⟨q0, q1, q2, q3, q4, q5, q6, q7, q8, q9⟩ := B2.c10
  have a0 := fun V => grw_some p0 V
  have a1 := fun V => grw_some p1 V
  have a2 := fun V => grw_some p2 V
  have a3 := fun V => grw_some p3 V
  have a4 := fun V => grw_some p4 V
  have a5 := fun V => grw_some p5 V
  have a6 := fun V => grw_some p6 V
  have a7 := fun V => grw_some p7 V
  have a8 := fun V => grw_some p8 V
  have a9 := fun V => grw_some p9 V
  have b0 := fun V => grw_some q0 V
  have b1 := fun V => grw_some q1 V
  have b7 := fun V => grw_some q7 V
  have b8 := fun V => grw_some q8 V
  clear p0 p1 p2 p3 p4 p5 p6 p7 p8 p9 q0 q1 q2 q3 q4 q5 q6 q7 q8 q9 B1 B2
  refine wp_region_grow_tail 19 ?_ ?_ ?_
  · kernel_rfl
  · kernel_rfl
  · intro hne
    simp only [List.take_succ_cons, List.take_zero, List.drop_succ_cons, List.drop_zero]
    repeat (go_big_quiet_step (first
      | (go_at_call 10; exact grow_call (HK.out _))
      | (go_at_call 11; exact grow_same (CompareI_any _ _ _))))
    refine wpQuiet_nil ?_
    rintro _ ⟨V, rfl⟩
    have hb3 := below_then HB2.out (grw_below W V)
    generalize sgn3 ti yti = k2 at *
    generalize sgn3 se yse = k3 at *
    generalize sgn3 wh ywh = k4 at *
    have B3 := Blk.new (grw W V) #[.int .i64 k1, .int .i64 k2, .int .i64 k3, .int .i64 k4] 3
    have hb4 := below_then hb3 (below_a1 (grw W V) (.cells #[.int .i64 k1, .int .i64 k2, .int .i64 k3, .int .i64 k4] 3))
    clear a0 a1 a2 a3 a4 a5 a6 a7 a8 a9 b0 b1 b7 b8 HK hb3
    generalize grw W V = w3 at *
    go_wp2_with (go_at_call 9; refine (HOR.out _ _ B3).mono ?_; rintro e w' ⟨rfl, rfl⟩)
    go_ret
    exact ⟨rfl, hb4⟩
set_option maxRecDepth 100000 in
theorem l9sign_any (a b : Int) (w : World) : Calls Try.prog 8 #[.int .i64 a, .int .i64 b] w fun e w' => e = .returned (.int .i64 (sgn3 a b)) ∧ w' = w := by
  rcases sgn3_cases a b with ⟨e, h⟩ | ⟨e, h⟩ | ⟨e, h⟩
  all_goals
    rw [e]
    have HE := hideB2 e
    clear e
    try subst h
    go_enter Try.func8, Try.ntmps8
    go_wp2
    go_ret
    exact ⟨rfl, rfl⟩
set_option maxRecDepth 100000 in
set_option maxHeartbeats 2000000 in
theorem sCompare_any (x y : Lx) (w : World) :
    Calls Try.prog 5 #[lxV x, lxV y] w fun e w' => e = .returned (.int .i64 (cmpX x y)) ∧ Below w.heap.size w w' := by
  have HK := kes_cases x.ke y.ke
  have HE : Hid (cmpX x y = or4 (kes x.ke y.ke) (sgn3 x.ti y.ti) (sgn3 x.se y.se) (sgn3 x.wh y.wh)) := rfl
  obtain ⟨ke, ti, si, me, st, la, rv, se, wh, sz⟩ := x
  obtain ⟨yke, yti, ysi, yme, yst, yla, yrv, yse, ywh, ysz⟩ := y
  unfold lxV at *
  simp only at *
  have HB2 := hideB2 (below_a2 w (.cells #[.string ke, .int .i64 ti, .int .i64 si, .string me, .int .i64 st, .string la, .bool rv, .int .i64 se, .int .i64 wh, .int .i64 sz] 26) (.cells #[.string yke, .int .i64 yti, .int .i64 ysi, .string yme, .int .i64 yst, .string yla, .bool yrv, .int .i64 yse, .int .i64 ywh, .int .i64 ysz] 26))
  generalize cmpX ⟨ke, ti, si, me, st, la, rv, se, wh, sz⟩ ⟨yke, yti, ysi, yme, yst, yla, yrv, yse, ywh, ysz⟩ = r at *
  generalize hk2 : sgn3 ti yti = k2 at *
  generalize hk3 : sgn3 se yse = k3 at *
  generalize hk4 : sgn3 wh ywh = k4 at *
  have HS := hideB2 (And.intro hk2 (And.intro hk3 hk4))
  clear hk2 hk3 hk4
  rcases HK with ⟨e, h⟩ | ⟨e, h⟩ | ⟨e, h⟩
  · rw [e] at HE
    have hne : (ke.toList == yke.toList) = false := by
      cases h4 : (ke.toList == yke.toList)
      · rfl
      · rw [eq_of_beq h4, bl_irr] at h; cases h
    have HR := hideB2 (show r = -1 from HE.out)
    clear HE e
    go_enter Try.func5, Try.ntmps5
    go_wp2
    go_ret
    exact ⟨ret_int HR.out, HB2.out⟩
  · rw [e] at HE
    have h2 := bl_asym h
    have hne : (ke.toList == yke.toList) = false := by
      cases h4 : (ke.toList == yke.toList)
      · rfl
      · rw [eq_of_beq h4, bl_irr] at h; cases h
    have HR := hideB2 (show r = 1 from HE.out)
    clear HE e
    go_enter Try.func5, Try.ntmps5
    go_wp2
    go_ret
    exact ⟨ret_int HR.out, HB2.out⟩
  · rw [e] at HE
    subst h
    have heq : (ke.toList == ke.toList) = true := by simp
    clear e
    by_cases h2 : k2 = 0
    · by_cases h3 : k3 = 0
      · have HR := hideB2 (show r = k4 by rw [HE.out, h2, h3]; rfl)
        have hb2 : (k2 != 0) = false := by simp [h2]
        have hb3 : (k3 != 0) = false := by simp [h3]
        clear HE h2 h3
        go_enter Try.func5, Try.ntmps5
        go_wp2_with (go_at_call 8; refine (l9sign_any _ _ _).mono ?_; rintro e w' ⟨rfl, rfl⟩; first | rw [HS.out.1] | rw [HS.out.2.1] | rw [HS.out.2.2])
        go_ret
        exact ⟨ret_int HR.out, HB2.out⟩
      · have HR := hideB2 (show r = k3 by rw [HE.out, h2]; unfold or4; rw [if_neg (by simp), if_neg (by simp), if_pos h3])
        have hb : (k3 != 0) = true := by simpa using h3
        have hb2 : (k2 != 0) = false := by simp [h2]
        clear HE h2 h3
        go_enter Try.func5, Try.ntmps5
        go_wp2_with (go_at_call 8; refine (l9sign_any _ _ _).mono ?_; rintro e w' ⟨rfl, rfl⟩; first | rw [HS.out.1] | rw [HS.out.2.1] | rw [HS.out.2.2])
        go_ret
        exact ⟨ret_int HR.out, HB2.out⟩
    · have HR := hideB2 (show r = k2 by rw [HE.out]; unfold or4; rw [if_neg (by simp), if_pos h2])
      have hb : (k2 != 0) = true := by simpa using h2
      clear HE h2
      go_enter Try.func5, Try.ntmps5
      go_wp2_with (go_at_call 8; refine (l9sign_any _ _ _).mono ?_; rintro e w' ⟨rfl, rfl⟩; first | rw [HS.out.1] | rw [HS.out.2.1] | rw [HS.out.2.2])
      go_ret
      exact ⟨ret_int HR.out, HB2.out⟩
end Go.Proofs.Ytenjbgpndkodmab
