/-
  Chapter 7: an address read off its place in the index; the program's side.
-/
import Derived.Test.YtefhpjipcdmbaabGreatDoorU15
namespace Go.Proofs.YtefhpjipcdmbaabGreatDoor
set_option linter.unusedVariables false
set_option linter.unusedSimpArgs false
open Go.RowKit
theorem usO_no1 {s : ByteArray} (h : urQ (usK s) = false) : usO s = false ∧ usU s = ur0 := by
  have h1 : usO s = false := by unfold usO; rw [h, Bool.false_and]
  exact ⟨h1, by unfold usU; rw [if_neg (by rw [h1]; simp)]⟩
theorem usO_no2 {s : ByteArray} (h : eqB (suU (usK s)) s = false) : usO s = false ∧ usU s = ur0 := by
  have h1 : usO s = false := by unfold usO; rw [h, Bool.and_false]
  exact ⟨h1, by unfold usU; rw [if_neg (by rw [h1]; simp)]⟩
theorem usO_yes {s : ByteArray} (h : urQ (usK s) = true) (h2 : eqB (suU (usK s)) s = true) : usO s = true ∧ usU s = usK s := by
  have h1 : usO s = true := by unfold usO; rw [h, h2, Bool.and_self]
  exact ⟨h1, by unfold usU; rw [if_pos h1]⟩
theorem usK_form (s : ByteArray) : usK s = ⟨turnB (uptS 58 (uptS 41 s)) 44 46, uptS 63 (bhS 41 s), bhS 63 (bhS 41 s), if hasS 58 (uptS 41 s) = true then rdecN (bhS 58 (uptS 41 s)) else 80, hasS 63 (bhS 41 s)⟩ := by
  simp only [usK, usT, hoS]
set_option maxRecDepth 100000 in
set_option maxHeartbeats 8000000 in
theorem Unsurt_any (s : ByteArray) (w : World) (hs : s.size ≤ 1048576) (htab : Tab10 w) :
    Calls Tryz.prog 12 #[.string s] w fun e w' => e = .returned (.tuple #[valU (usU s), .bool (usO s)]) ∧ Below w.heap.size w w' := by
  have HB := hideB2 (below_a1 w (.cells #[.string ⟨#[]⟩, .int .i64 0, .string ⟨#[]⟩, .string ⟨#[]⟩, .bool false] 23))
  have A0 := hideB2 (Blk.new w #[.string ⟨#[]⟩, .int .i64 0, .string ⟨#[]⟩, .string ⟨#[]⟩, .bool false] 23)
  have HT := hideB2 htab
  have H1 := hideB2 (fun W => CutS_any s 41 W (by unfold maxLen; omega))
  have z1 := uptS_size 41 s
  have z2 := bhS_size 41 s
  have HK0 := usK_form s
  have N1 := hideB2 (fun h => usO_no1 (s := s) h)
  have N2 := hideB2 (fun h => usO_no2 (s := s) h)
  have N3 := hideB2 (fun h h2 => usO_yes (s := s) h h2)
  clear htab
  generalize usU s = U at *
  generalize usO s = O at *
  generalize usK s = K at *
  generalize uptS 41 s = a at *
  generalize bhS 41 s = e at *
  generalize hasS 41 s = hs41 at *
  have H2 := hideB2 (fun W => looseUrl_any a e W (by omega) (by omega))
  have z3 := uptS_size 58 a
  have z4 := uptS_size 63 e
  have z5 := bhS_size 63 e
  generalize (if hasS 58 a = true then rdecN (bhS 58 a) else 80) = po at *
  generalize uptS 58 a = h at *
  generalize uptS 63 e = p at *
  generalize bhS 63 e = q at *
  generalize hasS 63 e = hq at *
  have H3 := hideB2 (fun W => turnedHost_any h 44 46 W (by omega))
  have z6 := turnB_size_eq h 44 46
  generalize turnB h 44 46 = th at *
  have H4 := hideB2 (fun W (h : Tab10 W) => UrlOk_any th p q po hq W h (by omega) (by omega) (by omega))
  have H5 := hideB2 (fun W (h : Tab10 W) => Surt_any th p q po hq W h (by omega) (by omega) (by omega))
  change Hid (∀ W, Tab10 W → Calls _ _ _ W fun e w' => e = .returned (.bool (urQ ⟨th, p, q, po, hq⟩)) ∧ Below W.heap.size W w') at H4
  change Hid (∀ W, Tab10 W → Calls _ _ _ W fun e w' => e = .returned (.string (suU ⟨th, p, q, po, hq⟩)) ∧ Below W.heap.size W w') at H5
  rw [← HK0] at H4 H5
  have HK := hideB2 HK0
  clear HK0
  have HSE := hideB2 (show ((suU K).toList == s.toList) = eqB (suU K) s from rfl)
  generalize urQ K = okv at *
  generalize eqB (suU K) s = b at *
  generalize suU K = sk at *
  have hse := HSE.out
  clear HSE
  go_enter Tryz.func12, Tryz.ntmps12
  go_wp2_with fail
  refine (H1.out _).mono ?_
  rintro e1 w1 ⟨rfl, hb1⟩
  go_wp2_with fail
  refine (H2.out _).mono ?_
  rintro e2 w2 ⟨rfl, hb2⟩
  have A2 := (A0.out.later hb1).later hb2
  have hb2' := below_then (below_then HB.out hb1) hb2
  have hlt := A2.lt
  have B2 := Blk.new w2 #[.string h, .int .i64 po, .string p, .string q, .bool hq] 23
  have A2' := A2.alloc (.cells #[.string h, .int .i64 po, .string p, .string q, .bool hq] 23)
  have hb2'' := below_then hb2' (below_a1 w2 (.cells #[.string h, .int .i64 po, .string p, .string q, .bool hq] 23))
  clear hb1 hb2 HB A0 H1 H2 A2
  go_wp2_with fail
  refine (H3.out _).mono ?_
  rintro e3 w3 ⟨rfl, hb3⟩
  have B3 := hideB2 (B2.later hb3)
  have A3 := hideB2 (A2'.later hb3)
  have HB3 := hideB2 (below_then hb2'' hb3)
  have hne : w2.heap.size ≠ w.heap.size := by omega
  have hge : w.heap.size ≤ w2.heap.size := by omega
  clear hb2' hb2'' hb3 B2 A2' H3 hlt
  generalize w2.heap.size = G at *
  obtain ⟨p0, p1, p2, p3, p4⟩ := B3.out.u5
  obtain ⟨f0, f1, f2, f3, f4⟩ := B3.out.f5U
  go_wp2_with fail
  refine (H4.out _ (tab_later HT.out (HB3.out.setCell (p := ⟨G, 0, none⟩) hge _))).mono ?_
  rintro e4 w4 ⟨rfl, hb4⟩
  have B4 : Hid (Blk w4 G #[.string th, .int .i64 po, .string p, .string q, .bool hq] 23) := hideB2 ((B3.out.set 0 _).later hb4)
  have A4 : Hid (Blk w4 w.heap.size #[.string ⟨#[]⟩, .int .i64 0, .string ⟨#[]⟩, .string ⟨#[]⟩, .bool false] 23) := hideB2 ((A3.out.other hne 0 _).later hb4)
  have HB4 := hideB2 (below_then (HB3.out.setCell (p := ⟨G, 0, none⟩) hge _) hb4)
  clear p0 p1 p2 p3 p4 f0 f1 f2 f3 f4 hb4 B3 A3 HB3 H4
  cases okv
  · have HUO := hideB2 (N1.out rfl)
    obtain ⟨a0, a1, a2, a3, a4⟩ := A4.out.u5
    obtain ⟨g0, g1, g2, g3, g4⟩ := A4.out.f5U
    clear B4
    have HF := hideB2 (show Ending.returned (.tuple #[.agg #[.string ⟨#[]⟩, .int .i64 0, .string ⟨#[]⟩, .string ⟨#[]⟩, .bool false], .bool false]) = .returned (.tuple #[valU U, .bool O]) by obtain ⟨h1, h2⟩ := HUO.out; rw [h1, h2]; rfl)
    go_wp2
    refine bodyPost_ret (results_cellT rfl _ _ _ rfl (A4.out.set5U _ _ _ _ _) Tryz.underlying23 Tryz.infoUrl) rfl ⟨?_, ?_⟩
    · exact HF.out
    exact below_set5 HB4.out (Nat.le_refl _) _ _ _ _ _
  · obtain ⟨p0, p1, p2, p3, p4⟩ := B4.out.u5
    go_wp2_with fail
    refine (H5.out _ (tab_later HT.out HB4.out)).mono ?_
    rintro e5 w5 ⟨rfl, hb5⟩
    have A5 := hideB2 (A4.out.later hb5)
    have B5 := hideB2 (B4.out.later hb5)
    have HB5 := hideB2 (below_then HB4.out hb5)
    clear p0 p1 p2 p3 p4 hb5 A4 B4 HB4 H5
    obtain ⟨p0, p1, p2, p3, p4⟩ := B5.out.u5
    obtain ⟨a0, a1, a2, a3, a4⟩ := A5.out.u5
    obtain ⟨g0, g1, g2, g3, g4⟩ := A5.out.f5U
    clear B5
    cases b
    · have HUO := hideB2 (N2.out rfl)
      have HF := hideB2 (show Ending.returned (.tuple #[.agg #[.string ⟨#[]⟩, .int .i64 0, .string ⟨#[]⟩, .string ⟨#[]⟩, .bool false], .bool false]) = .returned (.tuple #[valU U, .bool O]) by obtain ⟨h1, h2⟩ := HUO.out; rw [h1, h2]; rfl)
      go_wp2
      refine bodyPost_ret (results_cellT rfl _ _ _ rfl (A5.out.set5U _ _ _ _ _) Tryz.underlying23 Tryz.infoUrl) rfl ⟨?_, ?_⟩
      · exact HF.out
      exact below_set5 HB5.out (Nat.le_refl _) _ _ _ _ _
    · have HUO := hideB2 (show O = true ∧ U = ⟨th, p, q, po, hq⟩ by rw [← HK.out]; exact N3.out (by simp) (by simp))
      have HF := hideB2 (show Ending.returned (.tuple #[.agg #[.string th, .int .i64 po, .string p, .string q, .bool hq], .bool true]) = .returned (.tuple #[valU U, .bool O]) by obtain ⟨h1, h2⟩ := HUO.out; rw [h1, h2]; rfl)
      go_wp2
      refine bodyPost_ret (results_cellT rfl _ _ _ rfl (A5.out.set5U _ _ _ _ _) Tryz.underlying23 Tryz.infoUrl) rfl ⟨?_, ?_⟩
      · exact HF.out
      exact below_set5 HB5.out (Nat.le_refl _) _ _ _ _ _
end Go.Proofs.YtefhpjipcdmbaabGreatDoor
