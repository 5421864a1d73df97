/-
  The drawing functions of chapter 7: a path, bent or not.
-/
import Derived.Test.YtefhpjipcdmbaabGreatDoorWD4
import Derived.Test.YtefhpjipcdmbaabGreatDoorMU2
namespace Go.Proofs.YtefhpjipcdmbaabGreatDoor
set_option linter.unusedVariables false
set_option linter.unusedSimpArgs false
open Go.RowKit
theorem cell_newT (w : World) (c : Array Value) (t : TypeId) (j k : Nat) (s : ByteArray) (h : c[j]? = some (.string s)) (h1 : s.size ≤ k) : ∃ s : ByteArray, s.size ≤ k ∧ (w.alloc (.cells c t)).cell? ⟨w.heap.size, j, none⟩ = some (.string s) :=
  ⟨s, h1, by simp only [World.cell?, heap_alloc_new]; exact h⟩
theorem kp_alloc1 {p : Nat} {w w' : World} (o : Obj) (h : Kp p (w.alloc o) w') : Kp p w w' := (World.grownBy_alloc w o _ : Kp p w (w.alloc o)).trans h
set_option maxRecDepth 100000 in
set_option maxHeartbeats 4000000 in
theorem l7path_any (p : Nat) (w : World) (hd : Drw w p) :
    Calls Tryz.prog 41 #[.pointer (some ⟨p, 0, none⟩)] w fun e w' => (∃ s : ByteArray, s.size ≤ 28 ∧ e = .returned (.string s)) ∧ Kp p w w' ∧ Drw w' p := by
  go_enter Tryz.func41, Tryz.ntmps41
  go_wp2_with fail
  refine (l1Below_any p 5 _ hd (by omega)).mono ?_
  rintro e w1 ⟨⟨n, hn, _, _, rfl⟩, hk1, hd1⟩
  have hn5 : n < 5 := by have := hn (by omega); omega
  clear hn hd
  have HK1 := hideB2 hk1
  have HD1 := hideB2 hd1
  clear hk1 hd1
  go_wp2
  go_loopw [3, 4] (fun o i wr => ∃ (k : Nat) (s : ByteArray), i = .int .i64 k ∧ o = .string s ∧ s.size + k * 7 ≤ 28 ∧ Kp p w wr ∧ Drw wr p) (fun _ i _ => (intOf i).toNat)
  case atStart => exact ⟨n, ⟨#[]⟩, rfl, rfl, by show 0 + n * 7 ≤ 28; omega, HK1.out, HD1.out⟩
  case round =>
    obtain ⟨k, s, rfl, rfl, hl, hkp, hdr⟩ := hrel
    have HKP := hideB2 hkp
    have hplt := hdr.lt
    clear hkp HK1 HD1
    by_cases hk0 : 0 < k
    · obtain ⟨j, rfl⟩ : ∃ j, k = j + 1 := ⟨k - 1, by omega⟩
      have h1 : (0 : Int) < ((j + 1 : Nat) : Int) := by omega
      have e1 : IntKind.i64.wrap (((j + 1 : Nat) : Int) - 1) = (j : Int) := by rw [IntKind.wrap_i64]; omega
      go_wp2_with fail
      have hcell : ∀ m, m < 13 → ∃ t : ByteArray, t.size ≤ 6 ∧ (wr.alloc (.cells #[.string ⟨#[97]⟩, .string ⟨#[98]⟩, .string ⟨#[46]⟩, .string ⟨#[46, 46]⟩, .string ⟨#[]⟩, .string ⟨#[37, 52, 49]⟩, .string ⟨#[37, 50, 102]⟩, .string ⟨#[37, 55, 101]⟩, .string ⟨#[37, 122, 122]⟩, .string ⟨#[37, 50, 53]⟩, .string ⟨#[46, 46, 46]⟩, .string ⟨#[37, 50, 69]⟩, .string ⟨#[37, 50, 101, 37, 50, 69]⟩] 9)).cell? ⟨wr.heap.size, m, none⟩ = some (.string t) := by
        intro m hm
        rcases m with _ | _ | _ | _ | _ | _ | _ | _ | _ | _ | _ | _ | _ | m
        all_goals first | omega | exact cell_newT _ _ _ _ _ _ rfl (by decide)
      have hka := kp_alloc1 (p := p) (w := wr) (.cells #[.string ⟨#[97]⟩, .string ⟨#[98]⟩, .string ⟨#[46]⟩, .string ⟨#[46, 46]⟩, .string ⟨#[]⟩, .string ⟨#[37, 52, 49]⟩, .string ⟨#[37, 50, 102]⟩, .string ⟨#[37, 55, 101]⟩, .string ⟨#[37, 122, 122]⟩, .string ⟨#[37, 50, 53]⟩, .string ⟨#[46, 46, 46]⟩, .string ⟨#[37, 50, 69]⟩, .string ⟨#[37, 50, 101, 37, 50, 69]⟩] 9) (Kp.refl _ _)
      have hda := hdr.alloc (.cells #[.string ⟨#[97]⟩, .string ⟨#[98]⟩, .string ⟨#[46]⟩, .string ⟨#[46, 46]⟩, .string ⟨#[]⟩, .string ⟨#[37, 52, 49]⟩, .string ⟨#[37, 50, 102]⟩, .string ⟨#[37, 55, 101]⟩, .string ⟨#[37, 122, 122]⟩, .string ⟨#[37, 50, 53]⟩, .string ⟨#[46, 46, 46]⟩, .string ⟨#[37, 50, 69]⟩, .string ⟨#[37, 50, 101, 37, 50, 69]⟩] 9)
      generalize wr.alloc (.cells _ 9) = W at *
      generalize wr.heap.size = g at *
      refine (l1Below_any p 13 _ hda (by omega)).mono ?_
      rintro e w2 ⟨⟨m, hm, _, _, rfl⟩, hk2, hd2⟩
      have hm13 : m < 13 := by have := hm (by omega); omega
      obtain ⟨t, ht, hct⟩ := hcell m hm13
      have hcv := hk2.cell hct (by simp; omega)
      have HK := hideB2 ((HKP.out.trans hka).trans hk2)
      have HD := hideB2 hd2
      have hsz : ((s ++ (⟨#[47]⟩ : ByteArray)) ++ t).size ≤ s.size + 7 := by rw [ByteArray.size_append, ByteArray.size_append]; show s.size + 1 + t.size ≤ _; omega
      have hm0 : (0 : Int) ≤ (m : Int) := by omega
      have hm1 : (m : Int) < 13 := by omega
      clear hcell hct hka hda hm hk2 hd2 hdr
      go_wp2
      exact ⟨⟨j, _, by go_num, rfl, by omega, HK.out, HD.out⟩, by simp [intOf]⟩
    · have h1 : ¬ (0 : Int) < (k : Int) := by omega
      have HD := hideB2 hdr
      have hs : s.size ≤ 28 := by omega
      clear hdr hl
      go_wp2
      go_ret
      exact ⟨⟨s, hs, rfl⟩, HKP.out, HD.out⟩
set_option maxRecDepth 100000 in
set_option maxHeartbeats 4000000 in
theorem DrawCleanPath_any (a : Option Addr) (len cap : Nat) (w : World) (hc : Code w a len) :
    Calls Tryz.prog 13 #[.slice a len cap] w fun e w' => (∃ s : ByteArray, s.size ≤ 300 ∧ e = .returned (.string s)) ∧ Below w.heap.size w w' := by
  go_enter Tryz.func13, Tryz.ntmps13
  go_wp2_with fail
  refine (l1New_any a len cap _ hc.row hc.max).mono ?_
  rintro e w1 ⟨rfl, hb1, hd1⟩
  clear hc
  go_wp2_with fail
  refine (l7path_any _ _ hd1).mono ?_
  rintro e w2 ⟨⟨s, hs, rfl⟩, hk2, hd2⟩
  have hb2 := hb1.trans (hk2.below (Nat.le_refl _) hb1.size)
  clear hk2 hd1 hb1
  go_wp2_with fail
  refine (l1Below_any _ 9 _ hd2 (by omega)).mono ?_
  rintro e w3 ⟨⟨n, hn, _, _, rfl⟩, hk3, hd3⟩
  have hn9 : n < 9 := by have := hn (by omega); omega
  have hb3 := hb2.trans (hk3.below (Nat.le_refl _) hb2.size)
  clear hn hk3 hd2 hb2
  have hcs : n = 0 ∨ n = 1 ∨ (2 ≤ n ∧ n < 9) := by omega
  rcases hcs with rfl | rfl | ⟨h2, h9⟩
  · go_wp2_with fail
    refine (l1bend_any _ s _ hd3 (by omega)).mono ?_
    rintro e w4 ⟨⟨t, ht, rfl⟩, hk4, hd4⟩
    have HB := hideB2 (hb3.trans (hk4.below (Nat.le_refl _) hb3.size))
    clear hk4 hb3 hd3
    go_wp2
    go_ret
    exact ⟨⟨t, by omega, rfl⟩, HB.out⟩
  · go_wp2_with fail
    refine (l1Below_any _ 2 _ hd3 (by omega)).mono ?_
    rintro e w4 ⟨⟨m, hm, _, _, rfl⟩, hk4, hd4⟩
    have hm2 : m < 2 := by have := hm (by omega); omega
    have hb4 := hb3.trans (hk4.below (Nat.le_refl _) hb3.size)
    clear hm hk4 hb3 hd3
    have e1 : IntKind.i64.wrap (199 + (m : Int)) = ((m + 199 : Nat) : Int) := by rw [IntKind.wrap_i64]; omega
    have e2 : (199 : Int) + (m : Int) = ((m + 199 : Nat) : Int) := by omega
    go_wp2_with fail
    first | rw [e2] | skip
    refine (l1of_any _ (m + 199) _ _ hd4 (by omega) (by decide) (by decide)).mono ?_
    rintro e w5 ⟨⟨l, hl, _, rfl⟩, hk5, hd5⟩
    have hz : (ByteArray.mk l.toArray).size ≤ 201 := by show l.toArray.size ≤ 201; simp; omega
    generalize ByteArray.mk l.toArray = t at *
    have hz2 : ((⟨#[47]⟩ : ByteArray) ++ t).size ≤ 300 := by rw [ByteArray.size_append]; show 1 + t.size ≤ 300; omega
    have HB := hideB2 (hb4.trans (hk5.below (Nat.le_refl _) hb4.size))
    clear hl hk5 hb4 hd4
    go_wp2
    go_ret
    exact ⟨⟨_, hz2, rfl⟩, HB.out⟩
  · have g0 : ((n : Int) == 0) = false := by rw [beq_eq_false_iff_ne]; omega
    have g1 : ((n : Int) == 1) = false := by rw [beq_eq_false_iff_ne]; omega
    have HB := hideB2 hb3
    clear hb3 hd3
    go_wp2
    go_ret
    exact ⟨⟨s, by omega, rfl⟩, HB.out⟩
end Go.Proofs.YtefhpjipcdmbaabGreatDoor
