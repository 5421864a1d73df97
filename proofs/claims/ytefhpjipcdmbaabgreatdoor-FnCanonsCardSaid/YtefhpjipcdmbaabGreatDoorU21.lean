/-
  The drawing functions of chapter 7: an address's text, bent or not.
-/
import Derived.Test.YtefhpjipcdmbaabGreatDoorU18
import Derived.Deep.DeepCutAuto
namespace Go.Proofs.YtefhpjipcdmbaabGreatDoor
set_option linter.unusedVariables false
set_option linter.unusedSimpArgs false
open Go.RowKit
/-- A text picked of a table of the call's own. -/
theorem pick_text (p n k : Nat) (z : Int) (c : Array Value) (w : World) (hd : Drw w p) (hz : z = (n : Int)) (h0 : 0 < n) (h1 : n ≤ 1000) (hc : ∀ j, j < n → ∃ s : ByteArray, s.size ≤ k ∧ c[j]? = some (.string s)) :
    Calls Tryz.prog 42 #[.pointer (some ⟨p, 0, none⟩), .int .i64 z] (w.alloc (.cells c 9)) fun e w' => (∃ (m : Nat) (s : ByteArray), m < n ∧ s.size ≤ k ∧ e = .returned (.int .i64 m) ∧ w'.cell? ⟨w.heap.size, m, none⟩ = some (.string s)) ∧ Kp p w w' ∧ Drw w' p := by
  subst hz
  have hlt := hd.lt
  refine (l1Below_any p (n : Int) _ (hd.alloc (.cells c 9)) (by omega)).mono ?_
  rintro e w2 ⟨⟨m, hm, _, _, rfl⟩, hk2, hd2⟩
  have hmn : m < n := by have := hm (by omega); omega
  obtain ⟨s, hs, hcs⟩ := hc m hmn
  have hcv : (w.alloc (.cells c 9)).cell? ⟨w.heap.size, m, none⟩ = some (.string s) := by simp only [World.cell?, heap_alloc_new]; exact hcs
  exact ⟨⟨m, s, hmn, hs, rfl, hk2.cell hcv (by show w.heap.size ≠ p; omega)⟩, kp_alloc1 _ hk2, hd2⟩
def porT (m : Nat) : ByteArray := if m = 2 then ⟨#[58, 56, 48]⟩ else if m = 3 then ⟨#[58, 56, 48, 56, 48]⟩ else if m = 4 then ⟨#[58, 54, 53, 53, 51, 53]⟩ else ⟨#[]⟩
theorem porT_size (m : Nat) : (porT m).size ≤ 6 := by
  unfold porT
  split
  · decide
  · split
    · decide
    · split <;> decide
def porC : Array Value := #[.string ⟨#[]⟩, .string ⟨#[]⟩, .string ⟨#[58, 56, 48]⟩, .string ⟨#[58, 56, 48, 56, 48]⟩, .string ⟨#[58, 54, 53, 53, 51, 53]⟩]
theorem por_new (W : World) (m : Nat) (hm : m < 5) : (W.alloc (.cells #[.string ⟨#[]⟩, .string ⟨#[]⟩, .string ⟨#[58, 56, 48]⟩, .string ⟨#[58, 56, 48, 56, 48]⟩, .string ⟨#[58, 54, 53, 53, 51, 53]⟩] 9)).cell? ⟨W.heap.size, m, none⟩ = some (.string (porT m)) := by
  simp only [World.cell?, heap_alloc_new]
  rcases m with _ | _ | _ | _ | _ | m
  all_goals first | omega | rfl
set_option maxRecDepth 100000 in
set_option maxHeartbeats 4000000 in
theorem l7url_any (p : Nat) (w : World) (hd : Drw w p) :
    Calls Tryz.prog 84 #[.pointer (some ⟨p, 0, none⟩)] w fun e w' => (∃ s : ByteArray, s.size ≤ 100 ∧ e = .returned (.string s)) ∧ Kp p w w' ∧ Drw w' p := by
  go_enter Tryz.func84, Tryz.ntmps84
  go_wp2_with fail
  refine (pick_text p 3 7 3 _ _ hd rfl (by omega) (by omega) ?_).mono ?_
  · intro j hj
    rcases j with _ | _ | _ | j
    all_goals first | omega | exact ⟨_, by decide, rfl⟩
  rintro e w1 ⟨⟨m1, s1, hm1, hs1, rfl, hc1⟩, hk1, hd1⟩
  clear hd
  have i1 : (0 : Int) ≤ (m1 : Int) := by omega
  have i2 : (m1 : Int) < 3 := by omega
  generalize w.heap.size = g at *
  go_wp2_with fail
  clear hc1 i1 i2 hm1
  refine (pick_text p 4 13 4 _ _ hd1 rfl (by omega) (by omega) ?_).mono ?_
  · intro j hj
    rcases j with _ | _ | _ | _ | j
    all_goals first | omega | exact ⟨_, by decide, rfl⟩
  rintro e w2 ⟨⟨m2, s2, hm2, hs2, rfl, hc2⟩, hk2, hd2⟩
  have hk := hk1.trans hk2
  clear hd1 hk1 hk2
  have i1 : (0 : Int) ≤ (m2 : Int) := by omega
  have i2 : (m2 : Int) < 4 := by omega
  have hz : (s1 ++ s2).size ≤ 20 := by rw [ByteArray.size_append]; omega
  have HK := hideB2 hk
  have HD := hideB2 hd2
  have hplt := hd2.lt
  clear hk hd2
  go_wp2
  clear hc2 i1 i2 hm2
  generalize s1 ++ s2 = s at *
  clear hs1 hs2
  go_cut [3] (fun t wc => ∃ x : ByteArray, t = .string x ∧ x.size ≤ 54 ∧ Kp p w wc ∧ Drw wc p)
  case first =>
    go_region_with (first
      | (go_at_call 42; refine (l1Below_any p 5 _ ?_ (by omega)).mono ?_; (first | exact HD.out.alloc _ | exact HD.out); rintro e w3 ⟨⟨m, hm, _, _, rfl⟩, hk3, hd3⟩; have hm5 : m < 5 := (by have := hm (by omega); omega); have j1 : (0 : Int) ≤ (m : Int) := (by omega); have j2 : (m : Int) < 5 := (by omega); have hs3 := porT_size m; have hcn := (fun W => por_new W m hm5); (first | have hc3 : w3.cell? ⟨w2.heap.size, m, none⟩ = some (.string (porT m)) := hk3.cell (por_new _ m hm5) (by show w2.heap.size ≠ p; omega) | skip))
      | (go_at_call 41; refine (l7path_any p _ ?_).mono ?_; (first | exact hd3 | exact hd3.alloc _); rintro e w4 ⟨⟨s4, hs4, rfl⟩, hk4, hd4⟩; (first | have hc4 : w4.cell? ⟨w2.heap.size, m, none⟩ = some (.string (porT m)) := hk4.cell hc3 (by show w2.heap.size ≠ p; omega) | have hc4 : w4.cell? ⟨w3.heap.size, m, none⟩ = some (.string (porT m)) := hk4.cell (por_new _ m hm5) (by show w3.heap.size ≠ p; (have hh := hk3.size; show w3.heap.size ≠ p; (have h2 : w2.heap.size ≤ w3.heap.size := hh); omega)) | skip)))
    all_goals
      have k3 : Kp p w2 w3 := by first | exact kp_alloc1 _ (Kp.of_drew hk3) | exact Kp.of_drew hk3 | exact kp_alloc1 _ hk3 | exact hk3
      have k4 : Kp p w3 w4 := by first | exact kp_alloc1 _ (Kp.of_drew hk4) | exact Kp.of_drew hk4 | exact kp_alloc1 _ hk4 | exact hk4
      have kk := (HK.out.trans k3).trans k4
      go_wp2_with fail
      go_meet
      exact ⟨_, rfl, by rw [ByteArray.size_append, ByteArray.size_append]; omega, by first | exact kk | exact kk.drew | exact kk.alloc _ | exact (kk.alloc _).drew | exact kk.drew.alloc _, by first | exact hd4 | exact hd4.drew | exact hd4.alloc _ | exact (hd4.alloc _).drew | exact hd4.drew.alloc _⟩
  case rest =>
    obtain ⟨x, rfl, hx, hkx, hdx⟩ := hcut
    clear HK HD hplt hz
    go_wp2_with fail
    refine (l1Once_any p 3 _ hdx (by omega)).mono ?_
    rintro e w5 ⟨⟨b, rfl⟩, hk5, hd5⟩
    have hk6 := hkx.trans hk5
    clear hkx hk5 hdx
    cases b
    · have HK := hideB2 hk6
      have HD := hideB2 hd5
      clear hk6 hd5
      go_wp2
      go_ret
      exact ⟨⟨x, by omega, rfl⟩, HK.out, HD.out⟩
    · go_wp2_with fail
      refine (l1Below_any p 5 _ hd5 (by omega)).mono ?_
      rintro e w6 ⟨⟨n, hn, _, _, rfl⟩, hk7, hd6⟩
      have hn5 : n < 5 := by have := hn (by omega); omega
      have hk8 := hk6.trans hk7
      clear hn hk6 hk7 hd5
      go_wp2_with fail
      refine (l1of_any p n _ _ hd6 (by omega) (by decide) (by decide)).mono ?_
      rintro e w7 ⟨⟨l, hl, _, rfl⟩, hk9, hd7⟩
      have hzl : (ByteArray.mk l.toArray).size ≤ 5 := by show l.toArray.size ≤ 5; simp; omega
      generalize ByteArray.mk l.toArray = t at *
      have hz2 : ((x ++ (⟨#[63]⟩ : ByteArray)) ++ t).size ≤ 100 := by rw [ByteArray.size_append, ByteArray.size_append]; show x.size + 1 + t.size ≤ 100; omega
      have HK := hideB2 (hk8.trans hk9)
      have HD := hideB2 hd7
      clear hl hk8 hk9 hd6 hd7
      go_wp2
      go_ret
      exact ⟨⟨_, hz2, rfl⟩, HK.out, HD.out⟩
set_option maxRecDepth 100000 in
set_option maxHeartbeats 4000000 in
theorem l7urlBent_any (p : Nat) (w : World) (hd : Drw w p) :
    Calls Tryz.prog 52 #[.pointer (some ⟨p, 0, none⟩)] w fun e w' => (∃ s : ByteArray, s.size ≤ 300 ∧ e = .returned (.string s)) ∧ Kp p w w' ∧ Drw w' p := by
  go_enter Tryz.func52, Tryz.ntmps52
  go_wp2_with fail
  refine (l7url_any p _ hd).mono ?_
  rintro e w2 ⟨⟨s, hs, rfl⟩, hk2, hd2⟩
  clear hd
  go_wp2_with fail
  refine (l1Below_any p 9 _ hd2 (by omega)).mono ?_
  rintro e w3 ⟨⟨n, hn, _, _, rfl⟩, hk3, hd3⟩
  have hn9 : n < 9 := by have := hn (by omega); omega
  have hk := hk2.trans hk3
  clear hn hk3 hd2 hk2
  have hcs : n = 0 ∨ n = 1 ∨ n = 2 ∨ (3 ≤ n ∧ n < 9) := by omega
  rcases hcs with rfl | rfl | rfl | ⟨h2, h9⟩
  · go_wp2_with fail
    refine (l1bend_any p s _ hd3 (by omega)).mono ?_
    rintro e w4 ⟨⟨t, ht, rfl⟩, hk4, hd4⟩
    have HB := hideB2 (hk.trans hk4)
    have HD := hideB2 hd4
    clear hk4 hk hd3 hd4
    go_wp2
    go_ret
    exact ⟨⟨t, by omega, rfl⟩, HB.out, HD.out⟩
  · go_wp2_with fail
    refine (l1Below_any p 2 _ hd3 (by omega)).mono ?_
    rintro e w4 ⟨⟨m, hm, _, _, rfl⟩, hk4, hd4⟩
    have hm2 : m < 2 := by have := hm (by omega); omega
    have hk5 := hk.trans hk4
    clear hm hk4 hd3 hk
    have e1 : IntKind.i64.wrap (191 + (m : Int)) = ((m + 191 : Nat) : Int) := by rw [IntKind.wrap_i64]; omega
    have e2 : (191 : Int) + (m : Int) = ((m + 191 : Nat) : Int) := by omega
    go_wp2_with fail
    first | rw [e2] | skip
    refine (l1of_any p (m + 191) _ _ hd4 (by omega) (by decide) (by decide)).mono ?_
    rintro e w5 ⟨⟨l, hl, _, rfl⟩, hk6, hd6⟩
    have hz : (ByteArray.mk l.toArray).size ≤ 200 := by show l.toArray.size ≤ 200; simp; omega
    generalize ByteArray.mk l.toArray = t at *
    have hz2 : ((⟨#[104, 116, 116, 112, 58, 47, 47, 97, 47]⟩ : ByteArray) ++ t).size ≤ 300 := by rw [ByteArray.size_append]; show 9 + t.size ≤ 300; omega
    have HB := hideB2 (hk5.trans hk6)
    have HD := hideB2 hd6
    clear hl hk5 hk6 hd4 hd6
    go_wp2
    go_ret
    exact ⟨⟨_, hz2, rfl⟩, HB.out, HD.out⟩
  · go_wp2_with fail
    refine (pick_text p 9 20 9 _ _ hd3 rfl (by omega) (by omega) ?_).mono ?_
    · intro j hj
      rcases j with _ | _ | _ | _ | _ | _ | _ | _ | _ | j
      all_goals first | omega | exact ⟨_, by decide, rfl⟩
    rintro e w4 ⟨⟨m2, s2, hm2, hs2, rfl, hc2⟩, hk4, hd4⟩
    have i1 : (0 : Int) ≤ (m2 : Int) := by omega
    have i2 : (m2 : Int) < 9 := by omega
    have HB := hideB2 (hk.trans hk4)
    have HD := hideB2 hd4
    clear hk hk4 hd3 hd4
    go_wp2
    go_ret
    exact ⟨⟨s2, by omega, rfl⟩, HB.out, HD.out⟩
  · have g0 : ((n : Int) == 0) = false := by rw [beq_eq_false_iff_ne]; omega
    have g1 : ((n : Int) == 1) = false := by rw [beq_eq_false_iff_ne]; omega
    have g2 : ((n : Int) == 2) = false := by rw [beq_eq_false_iff_ne]; omega
    have HB := hideB2 hk
    have HD := hideB2 hd3
    clear hk hd3
    go_wp2
    go_ret
    exact ⟨⟨s, by omega, rfl⟩, HB.out, HD.out⟩
set_option maxHeartbeats 1000000 in
theorem DrawCanon_any (a : Option Addr) (len cap : Nat) (w : World) (hc : Code w a len) :
    Calls Tryz.prog 18 #[.slice a len cap] w fun e w' => (∃ s : ByteArray, s.size ≤ 300 ∧ e = .returned (.string s)) ∧ Below w.heap.size w w' := by
  go_enter Tryz.func18, Tryz.ntmps18
  go_wp2_with fail
  refine (l1New_any a len cap _ hc.row hc.max).mono ?_
  rintro e w1 ⟨rfl, hb1, hd1⟩
  go_wp2_with fail
  refine (l7urlBent_any _ _ hd1).mono ?_
  rintro e w2 ⟨⟨s, hs, rfl⟩, hk2, hd2⟩
  have HB := hideB2 (hb1.trans (hk2.below (Nat.le_refl _) hb1.size))
  clear hb1 hk2 hd1 hd2 hc
  go_wp2
  go_ret
  exact ⟨⟨s, hs, rfl⟩, HB.out⟩
end Go.Proofs.YtefhpjipcdmbaabGreatDoor
