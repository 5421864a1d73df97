/-
  FnBlocks: five words and a text that are drawn.
-/
import Derived.Test.YtknpolmenfdheaaD22
namespace Go.Proofs.Ytknpolmenfdheaa
set_option linter.unusedVariables false
set_option linter.unusedSimpArgs false
open Go.RowKit
set_option maxHeartbeats 2000000 in
theorem l3h_any (p : Nat) (w : World) (hd : Drw w p) :
    Calls Try.prog 34 #[.pointer (some ⟨p, 0, none⟩)] w fun e w' => (∃ g n cap xs, e = .returned (.slice (some ⟨g, 0, none⟩) n cap) ∧ xs.length = n ∧ n ≤ 5 ∧ w.heap.size ≤ g ∧ RowZ w' g xs) ∧ Kp p w w' ∧ Drw w' p := by
  go_enter Try.func34, Try.ntmps34
  go_wp2
  go_loopw [3, 4] (fun v i wr => ∃ l : List Int, l.length ≤ 5 ∧ i = .int .i64 ((l.length : Nat) : Int) ∧ IBuf p w wr v l) (fun _ i _ => 5 - (intOf i).toNat)
  case atStart => exact ⟨[], Nat.zero_le _, rfl, IBuf.start hd⟩
  case round =>
    obtain ⟨l, hl, rfl, hbuf⟩ := hrel
    clear hd
    generalize hk : l.length = k at *
    have HK := hideB2 hk
    clear hk
    by_cases hlt : k < 5
    · go_wp2_with fail
      refine (l1Below_any _ 4294967296 _ hbuf.st (by omega)).mono ?_
      rintro e w4 ⟨⟨z, _, _, _, rfl⟩, hk4, hd4⟩
      have hb1 := hbuf.draw hk4 hd4
      clear hbuf hk4 hd4
      go_wp2_with (at_builtin; refine wp_iapp rfl _ _ rfl _ _ rfl hb1 (z : Int) rfl (by rw [HK.out]; omega) ?_; intro v2 W2 hbuf2)
      refine ⟨⟨l ++ [(z : Int)], ?_, ?_, hbuf2⟩, by simp [intOf]; omega⟩
      · rw [List.length_append, HK.out]; exact hlt
      · rw [List.length_append, HK.out]; rfl
    · obtain ⟨g, cap, rfl, hcap, hg, hrow⟩ := hbuf.out (by rw [HK.out]; omega)
      have hd5 := hbuf.st
      have hk5 := hbuf.kp
      have hplt := hbuf.lt
      have hne : g ≠ p := by omega
      have hl5 : l.length = 5 := by rw [HK.out]; omega
      clear hbuf
      go_wp2_with fail
      refine (l1Once_any _ 8 _ hd5 (by omega)).mono ?_
      rintro e w6 ⟨⟨b, rfl⟩, hk6, hd6⟩
      have hr6 := hrow.kp hk6 hne
      have hK6 := hk5.trans hk6
      clear hrow hk5 hk6 hd5
      cases b with
      | false =>
        go_wp2_with fail
        refine (l1Once_any _ 9 _ hd6 (by omega)).mono ?_
        rintro e w7 ⟨⟨b7, rfl⟩, hk7, hd7⟩
        have hr7 := hr6.kp hk7 hne
        have hK7 := hK6.trans hk7
        have HL5 := hideB2 hl5
        clear hl5
        cases b7 with
        | false =>
          go_wp2
          go_ret
          exact ⟨⟨g, 5, cap, l, rfl, HL5.out, by omega, hg, hr7⟩, hK7, hd7⟩
        | true =>
          go_wp2
          go_ret
          refine ⟨⟨g, 4, cap, l.take 4, rfl, by rw [List.length_take, HL5.out]; rfl, by omega, hg, ⟨fun j hj => ?_, hr7.free, hr7.lt⟩⟩, hK7, hd7⟩
          rw [List.length_take] at hj
          rw [hr7.cell j (by omega)]
          simp [List.getD, List.getElem?_take, show j < 4 by omega]
      | true =>
        have HL5 := hideB2 hl5
        clear hl5
        go_wp2_with fail
        refine (l1Below_any _ 5 _ hd6 (by omega)).mono ?_
        rintro e w7 ⟨⟨z, hz, _, _, rfl⟩, hk7, hd7⟩
        have hz5 : (z : Int) < 5 := hz (by omega)
        have hr7 := hr6.kp hk7 hne
        have hK7 := hK6.trans hk7
        clear hz hr6 hK6 hk7 hd6
        go_wp2_with fail
        refine (l1PickInt_of (fun _ => True) p w7.heap.size 4 4 _ (hd7.alloc _) (by have := hd7.lt; omega) ?_ (by omega) (by omega)).mono ?_
        · intro j hj
          rcases j with _ | _ | _ | _ | j
          · exact cell_newP w7 _ _ _ 0 (-1) rfl trivial
          · exact cell_newP w7 _ _ _ 1 4294967296 rfl trivial
          · exact cell_newP w7 _ _ _ 2 0 rfl trivial
          · exact cell_newP w7 _ _ _ 3 4294967295 rfl trivial
          · omega
        rintro e w8 ⟨⟨y, _, rfl⟩, hk8, hd8⟩
        have hr8 := (hr7.keep (below_a1 w7 _)).kp hk8 hne
        have hK8 := (hK7.alloc (.cells #[.int .i64 (-1), .int .i64 4294967296, .int .i64 0, .int .i64 4294967295] 3)).trans hk8
        have c8 := hr8.cell z (by rw [HL5.out]; omega)
        have fr8 := hr8.free z
        have hr9 := hr8.set z y (by rw [HL5.out]; omega)
        have hK9 := hK8.setNew hg z (.int .i64 y)
        have hd9 := hd8.setNew (g := g) (by omega) z (.int .i64 y)
        have HL9 := hideB2 (show (l.set z y).length = 5 by rw [List.length_set]; exact HL5.out)
        have hzi : (0 : Int) ≤ (z : Int) := by omega
        clear hr7 hK7 hk8 hd7 hr8 hK8 hd8
        generalize l.getD z 0 = y0 at *
        go_wp2_with fail
        generalize w8.setCell ⟨g, z, none⟩ (.int .i64 y) = W9 at *
        refine (l1Once_any _ 9 _ hd9 (by omega)).mono ?_
        rintro e w10 ⟨⟨b7, rfl⟩, hk10, hd10⟩
        have hr10 := hr9.kp hk10 hne
        have hK10 := hK9.trans hk10
        clear hr9 hK9 hk10 hd9 c8 fr8
        generalize l.set z y = l9 at *
        cases b7 with
        | false =>
          go_wp2
          go_ret
          exact ⟨⟨g, 5, cap, l9, rfl, HL9.out, by omega, hg, hr10⟩, hK10, hd10⟩
        | true =>
          go_wp2
          go_ret
          refine ⟨⟨g, 4, cap, l9.take 4, rfl, by rw [List.length_take, HL9.out]; rfl, by omega, hg, ⟨fun j hj => ?_, hr10.free, hr10.lt⟩⟩, hK10, hd10⟩
          rw [List.length_take] at hj
          rw [hr10.cell j (by omega)]
          simp [List.getD, List.getElem?_take, show j < 4 by omega]
set_option maxHeartbeats 2000000 in
theorem DrawCompress_any (a : Option Addr) (len cap : Nat) (w : World) (hc : Code w a len) :
    Calls Try.prog 14 #[.slice a len cap] w fun e w' => (∃ g n cp xs s, e = .returned (.tuple #[.slice (some ⟨g, 0, none⟩) n cp, .string s]) ∧ xs.length = n ∧ n ≤ 5 ∧ RowZ w' g xs ∧ 63 ≤ s.size ∧ s.size ≤ 65) ∧ Below w.heap.size w w' := by
  go_enter Try.func14, Try.ntmps14
  go_wp2_with fail
  refine (l1New_any a len cap _ hc.1 hc.2).mono ?_
  rintro e w1 ⟨rfl, hb1, hd1⟩
  go_wp2_with fail
  refine (l3h_any _ _ hd1).mono ?_
  rintro e w2 ⟨⟨g, n, cp, xs, rfl, hxl, hn, hg, hr2⟩, hk2, hd2⟩
  have hne : g ≠ w.heap.size := by have := hd1.lt; omega
  go_wp2_with fail
  refine (l1PickInt_of (fun z => 63 ≤ z ∧ z ≤ 65) w.heap.size w2.heap.size 7 7 _ (hd2.alloc _) (by have := hd2.lt; omega) ?_ (by omega) (by omega)).mono ?_
  · intro j hj
    rcases j with _ | _ | _ | _ | _ | _ | _ | j
    · exact cell_newP w2 _ _ _ 0 64 rfl (by omega)
    · exact cell_newP w2 _ _ _ 1 64 rfl (by omega)
    · exact cell_newP w2 _ _ _ 2 64 rfl (by omega)
    · exact cell_newP w2 _ _ _ 3 64 rfl (by omega)
    · exact cell_newP w2 _ _ _ 4 64 rfl (by omega)
    · exact cell_newP w2 _ _ _ 5 63 rfl (by omega)
    · exact cell_newP w2 _ _ _ 6 65 rfl (by omega)
    · omega
  rintro e w3 ⟨⟨z, hz, rfl⟩, hk3, hd3⟩
  go_wp2_with fail
  refine (l3bytes_any w.heap.size z z.toNat _ hd3 (by omega) (by omega)).mono ?_
  rintro e w4 ⟨⟨s, hs, rfl⟩, hk4, hd4⟩
  have hr4 := ((hr2.keep (below_a1 w2 _)).kp hk3 hne).kp hk4 hne
  have hbb : Below w.heap.size w w4 := hb1.trans ((((hk2.alloc _).trans hk3).trans hk4).below (Nat.le_refl _) hb1.size)
  go_wp2
  go_ret2
  exact ⟨⟨g, n, cp, xs, s, rfl, hxl, hn, hr4, by omega, by omega⟩, hbb⟩
end Go.Proofs.Ytknpolmenfdheaa
