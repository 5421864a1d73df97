/-
  Chapter 9: ReadLine; both sides. (written by mkn11.py) · What a card of a door seat of chapter 1 needs: the listed tables. · What a card of a door seat of chapter 6 needs: the table of the powers of ten. · What every frame of a door seat of chapter 2 shares: the listed tables, a day and hour that comes in.
-/
import Derived.Test.YtenjbgpndkodmabGreatDoorJ9
import Derived.Test.YtenjbgpndkodmabGreatDoorJ0
import Derived.Lib.LaidTab
import Derived.LaidLaws
import Derived.LaidHandle
import Derived.ChangeVars
import Derived.OpenVars
import Derived.SevenTiedAt
import Derived.Test.YtenjbgpndkodmabGreatDoorJ3
import Derived.Test.YtenjbgpndkodmabGreatDoorJ7
namespace Go.Proofs.YtenjbgpndkodmabGreatDoor
set_option linter.unusedVariables false
set_option linter.unusedSimpArgs false
open Go.RowKit
theorem rdX_sizes {s : ByteArray} (h : (splS 32 s).length = 10) : (rdX (splS 32 s)).ke.size ≤ s.size ∧ (rdX (splS 32 s)).me.size ≤ s.size ∧ (rdX (splS 32 s)).la.size ≤ s.size := by
  refine ⟨?_, ?_, ?_⟩
  · show (wdX (splS 32 s) 0).size ≤ s.size
    exact wdX_le h (by omega)
  · show (wdX (splS 32 s) 3).size ≤ s.size
    exact wdX_le h (by omega)
  · show (wdX (splS 32 s) 5).size ≤ s.size
    exact wdX_le h (by omega)
set_option maxRecDepth 100000 in
set_option maxHeartbeats 4000000 in
theorem ReadLine_any (s : ByteArray) (w : World) (hs : s.size ≤ 1048576) (htab : Tab10 w) (hM : MonTab w) :
    Calls Tryz.prog 15 #[.string s] w fun e w' => e = .returned (.tuple #[lxV (rdlX s), .bool (rdlO s)]) ∧ Below w.heap.size w w' := by
  have HB := hideB2 (below_a1 w (.cells #[.string ⟨#[]⟩, .int .i64 0, .int .i64 0, .string ⟨#[]⟩, .int .i64 0, .string ⟨#[]⟩, .bool false, .int .i64 0, .int .i64 0, .int .i64 0] 26))
  have A0 := hideB2 (Blk.new w #[.string ⟨#[]⟩, .int .i64 0, .int .i64 0, .string ⟨#[]⟩, .int .i64 0, .string ⟨#[]⟩, .bool false, .int .i64 0, .int .i64 0, .int .i64 0] 26)
  have HT := hideB2 htab
  have HMT := hideB2 hM
  have HSP := hideB2 (fun W => SplitN_ten s W hs)
  clear htab hM
  by_cases h10 : (splS 32 s).length = 10
  · have hz := rdX_sizes h10
    have HLW := hideB2 (fun (g cap : Nat) W hc (hm : MonTab W) => lineOfWords_any g cap (splS 32 s) W hc (fun j hj => by have := wdX_le h10 hj; unfold maxLen; omega) hm)
    have HLT := hideB2 (fun W (h : Tab10 W) (hm : MonTab W) => LineText_any (rdX (splS 32 s)) W (by omega) (by omega) (by omega) h hm)
    have HN := hideB2 (fun h => rdlO_no2 (s := s) h)
    have HY := hideB2 (fun h => rdlO_yes (s := s) h10 h)
    have HSE := hideB2 (show ((litB (rdX (splS 32 s))).toList == s.toList) = eqB (litB (rdX (splS 32 s))) s from rfl)
    have H10 := hideB2 h10
    generalize litB (rdX (splS 32 s)) = T at *
    generalize rdX (splS 32 s) = X at *
    generalize rdlX s = RX at *
    generalize rdlO s = RO at *
    generalize eqB T s = b at *
    have hse := HSE.out
    clear HSE hz h10
    obtain ⟨ke, ti, si, me, st, la, rv, se, wh, sz⟩ := X
    unfold lxV at *
    simp only at *
    go_enter Tryz.func15, Tryz.ntmps15
    go_wp2_with fail
    refine (HSP.out _).mono ?_
    rintro e1 w1 ⟨n, cap, rfl, hb1, hlt1, _, _, hcells⟩
    obtain ⟨rfl, hcell⟩ := hcells H10.out
    have hsz : (w.alloc (.cells #[.string ⟨#[]⟩, .int .i64 0, .int .i64 0, .string ⟨#[]⟩, .int .i64 0, .string ⟨#[]⟩, .bool false, .int .i64 0, .int .i64 0, .int .i64 0] 26)).heap.size = w.heap.size + 1 := by simp
    rw [hsz] at hcell
    clear hsz
    have A1 := hideB2 (A0.out.later hb1)
    have HB1 := hideB2 (below_then HB.out hb1)
    have HCL := hideB2 hcell
    clear hb1 hcells hcell HSP A0 HB
    go_wp2_with fail
    refine (HLW.out _ _ _ HCL.out (HMT.out.below HB1.out)).mono ?_
    rintro e2 w2 ⟨rfl, hb2⟩
    have A2 := A1.out.later hb2
    have hb2' := below_then HB1.out hb2
    have hlt := A2.lt
    have B2 := Blk.new w2 #[.string ke, .int .i64 ti, .int .i64 si, .string me, .int .i64 st, .string la, .bool rv, .int .i64 se, .int .i64 wh, .int .i64 sz] 26
    have A2' := hideB2 (A2.alloc (.cells #[.string ke, .int .i64 ti, .int .i64 si, .string me, .int .i64 st, .string la, .bool rv, .int .i64 se, .int .i64 wh, .int .i64 sz] 26))
    have HB2 := hideB2 (below_then hb2' (below_a1 w2 (.cells #[.string ke, .int .i64 ti, .int .i64 si, .string me, .int .i64 st, .string la, .bool rv, .int .i64 se, .int .i64 wh, .int .i64 sz] 26)))
    have hwz := hb2'.size
    clear hb2 A2 A1 HB1 HCL HLW hb2'
    go_wp2_with fail
    refine (HLT.out _ (tab_later HT.out HB2.out) (HMT.out.below HB2.out)).mono ?_
    rintro e3 w3 ⟨rfl, hb3⟩
    have B3 := hideB2 (B2.later hb3)
    have A3 := hideB2 (A2'.out.later hb3)
    have HB3 := hideB2 (below_then HB2.out hb3)
    clear hb3 B2 A2' HB2 HLT HT HMT
    obtain ⟨a0, a1, a2, a3, a4, a5, a6, a7, a8, a9⟩ := A3.out.c10
    obtain ⟨g0, g1, g2, g3, g4, g5, g6, g7, g8, g9⟩ := A3.out.f10
    cases b
    · have HUO := hideB2 (HN.out rfl)
      have HF := hideB2 (show Ending.returned (.tuple #[.agg #[.string ⟨#[]⟩, .int .i64 0, .int .i64 0, .string ⟨#[]⟩, .int .i64 0, .string ⟨#[]⟩, .bool false, .int .i64 0, .int .i64 0, .int .i64 0], .bool false]) = .returned (.tuple #[.agg #[.string RX.ke, .int .i64 RX.ti, .int .i64 RX.si, .string RX.me, .int .i64 RX.st, .string RX.la, .bool RX.rv, .int .i64 RX.se, .int .i64 RX.wh, .int .i64 RX.sz], .bool RO]) by obtain ⟨h1, h2⟩ := HUO.out; rw [h1, h2]; rfl)
      clear B3
      go_wp2
      refine bodyPost_ret (results_cellT rfl _ _ _ rfl (A3.out.put10 _ _ _ _ _ _ _ _ _ _) Tryz.underlying26 Tryz.infoX2) rfl ⟨?_, ?_⟩
      · exact HF.out
      exact below_put10 HB3.out (Nat.le_refl _) _ _ _ _ _ _ _ _ _ _
    · have HUO := hideB2 (HY.out rfl)
      have HF := hideB2 (show Ending.returned (.tuple #[.agg #[.string ke, .int .i64 ti, .int .i64 si, .string me, .int .i64 st, .string la, .bool rv, .int .i64 se, .int .i64 wh, .int .i64 sz], .bool true]) = .returned (.tuple #[.agg #[.string RX.ke, .int .i64 RX.ti, .int .i64 RX.si, .string RX.me, .int .i64 RX.st, .string RX.la, .bool RX.rv, .int .i64 RX.se, .int .i64 RX.wh, .int .i64 RX.sz], .bool RO]) by obtain ⟨h1, h2⟩ := HUO.out; rw [h1, h2])
      obtain ⟨p0, p1, p2, p3, p4, p5, p6, p7, p8, p9⟩ := B3.out.c10
      clear B3
      go_wp2
      refine bodyPost_ret (results_cellT rfl _ _ _ rfl (A3.out.put10 _ _ _ _ _ _ _ _ _ _) Tryz.underlying26 Tryz.infoX2) rfl ⟨?_, ?_⟩
      · exact HF.out
      exact below_put10 HB3.out (Nat.le_refl _) _ _ _ _ _ _ _ _ _ _
  · have HUO := hideB2 (rdlO_no1 h10)
    have H10 := hideB2 h10
    have HF := hideB2 (show Ending.returned (.tuple #[.agg #[.string ⟨#[]⟩, .int .i64 0, .int .i64 0, .string ⟨#[]⟩, .int .i64 0, .string ⟨#[]⟩, .bool false, .int .i64 0, .int .i64 0, .int .i64 0], .bool false]) = .returned (.tuple #[lxV (rdlX s), .bool (rdlO s)]) by obtain ⟨h1, h2⟩ := HUO.out; rw [h1, h2]; rfl)
    generalize rdlX s = RX at *
    generalize rdlO s = RO at *
    clear h10
    go_enter Tryz.func15, Tryz.ntmps15
    go_wp2_with fail
    refine (HSP.out _).mono ?_
    rintro e1 w1 ⟨n, cap, rfl, hb1, hlt1, hn11, hne, _⟩
    have hne' : ((n : Int) != 10) = true := by rw [bne_iff_ne]; exact hne H10.out
    have A1 := hideB2 (A0.out.later hb1)
    have HB1 := hideB2 (below_then HB.out hb1)
    obtain ⟨a0, a1, a2, a3, a4, a5, a6, a7, a8, a9⟩ := A1.out.c10
    obtain ⟨g0, g1, g2, g3, g4, g5, g6, g7, g8, g9⟩ := A1.out.f10
    clear hb1 HSP A0 HB hne hlt1 HUO
    go_wp2
    refine bodyPost_ret (results_cellT rfl _ _ _ rfl (A1.out.put10 _ _ _ _ _ _ _ _ _ _) Tryz.underlying26 Tryz.infoX2) rfl ⟨?_, ?_⟩
    · exact HF.out
    exact below_put10 HB1.out (Nat.le_refl _) _ _ _ _ _ _ _ _ _ _
set_option maxRecDepth 100000 in
set_option maxHeartbeats 8000000 in
theorem sReadLine_any (s : ByteArray) (w : World) (hs : s.size ≤ 1048576) :
    Calls Tryz.prog 14 #[.string s] w fun e w' => e = .returned (.tuple #[lxV (rdlX s), .bool (rdlO s)]) ∧ Below w.heap.size w w' := by
  have HB := hideB2 (below_a1 w (.cells #[.string ⟨#[]⟩, .int .i64 0, .int .i64 0, .string ⟨#[]⟩, .int .i64 0, .string ⟨#[]⟩, .bool false, .int .i64 0, .int .i64 0, .int .i64 0] 26))
  have A0 := hideB2 (Blk.new w #[.string ⟨#[]⟩, .int .i64 0, .int .i64 0, .string ⟨#[]⟩, .int .i64 0, .string ⟨#[]⟩, .bool false, .int .i64 0, .int .i64 0, .int .i64 0] 26)
  have HSP := hideB2 (fun W => l7split_any s 32 W hs)
  by_cases h400 : (400 : Int) < (s.size : Int)
  · have HUO := hideB2 (show rdlO s = false ∧ rdlX s = lx0 from ⟨rdlO_long (by omega), by unfold rdlX; rw [if_neg (by rw [rdlO_long (by omega)]; simp)]⟩)
    have HF := hideB2 (show Ending.returned (.tuple #[.agg #[.string ⟨#[]⟩, .int .i64 0, .int .i64 0, .string ⟨#[]⟩, .int .i64 0, .string ⟨#[]⟩, .bool false, .int .i64 0, .int .i64 0, .int .i64 0], .bool false]) = .returned (.tuple #[lxV (rdlX s), .bool (rdlO s)]) by obtain ⟨h1, h2⟩ := HUO.out; rw [h1, h2]; rfl)
    generalize rdlX s = RX at *
    generalize rdlO s = RO at *
    obtain ⟨a0, a1, a2, a3, a4, a5, a6, a7, a8, a9⟩ := A0.out.c10
    obtain ⟨g0, g1, g2, g3, g4, g5, g6, g7, g8, g9⟩ := A0.out.f10
    clear HUO HSP
    go_enter Tryz.func14, Tryz.ntmps14
    go_wp2
    refine bodyPost_ret (results_cellT rfl _ _ _ rfl A0.out Tryz.underlying26 Tryz.infoX2) rfl ⟨?_, ?_⟩
    · exact HF.out
    exact HB.out
  by_cases h10 : (splS 32 s).length = 10
  · have hz := rdX_sizes h10
    have HLT := hideB2 (fun W => sLineText_any (rdX (splS 32 s)) W (by omega) (by omega) (by omega))
    have HN := hideB2 (fun h => rdlO_no2 (s := s) h)
    have HY := hideB2 (fun h => rdlO_yes (s := s) h10 h)
    have HSE := hideB2 (show ((litB (rdX (splS 32 s))).toList == s.toList) = eqB (litB (rdX (splS 32 s))) s from rfl)
    have H10 := hideB2 h10
    have HR : Hid (rdX (splS 32 s) = ⟨wdX (splS 32 s) 0, rsN (wdX (splS 32 s) 1), if eqB (wdX (splS 32 s) 2) ⟨#[111]⟩ = true then 1 else 0, wdX (splS 32 s) 3, rdecN (wdX (splS 32 s) 4), wdX (splS 32 s) 5, eqB (wdX (splS 32 s) 6) ⟨#[114]⟩, rdecN (wdX (splS 32 s) 7), rdecN (wdX (splS 32 s) 8), rdecN (wdX (splS 32 s) 9)⟩) := rfl
    have hk4 : (wdX (splS 32 s) 4).size ≤ maxLen := by have := wdX_le h10 (j := 4) (by omega); unfold maxLen; omega
    have hk7 : (wdX (splS 32 s) 7).size ≤ maxLen := by have := wdX_le h10 (j := 7) (by omega); unfold maxLen; omega
    have hk8 : (wdX (splS 32 s) 8).size ≤ maxLen := by have := wdX_le h10 (j := 8) (by omega); unfold maxLen; omega
    have hk9 : (wdX (splS 32 s) 9).size ≤ maxLen := by have := wdX_le h10 (j := 9) (by omega); unfold maxLen; omega
    have t2 := eqB_byte (wdX (splS 32 s) 2) 111
    have t6 := eqB_byte (wdX (splS 32 s) 6) 114
    have HCW : Hid (∀ j, j < 10 → (splS 32 s)[j]? = some ([wdX (splS 32 s) 0, wdX (splS 32 s) 1, wdX (splS 32 s) 2, wdX (splS 32 s) 3, wdX (splS 32 s) 4, wdX (splS 32 s) 5, wdX (splS 32 s) 6, wdX (splS 32 s) 7, wdX (splS 32 s) 8, wdX (splS 32 s) 9].getD j ⟨#[]⟩)) := by
      intro j hj
      have e : (splS 32 s)[j]? = some (wdX (splS 32 s) j) := by unfold wdX; rw [List.getD, List.getElem?_eq_getElem (by omega)]; rfl
      rw [e]
      rcases j with _ | _ | _ | _ | _ | _ | _ | _ | _ | _ | j
      all_goals first | rfl | omega
    generalize litB (rdX (splS 32 s)) = T at *
    generalize rdX (splS 32 s) = X at *
    generalize rdlX s = RX at *
    generalize rdlO s = RO at *
    generalize eqB T s = b at *
    have hse := HSE.out
    clear HSE hz h10
    generalize wdX (splS 32 s) 0 = k0 at *
    generalize wdX (splS 32 s) 1 = k1 at *
    generalize wdX (splS 32 s) 2 = k2 at *
    generalize wdX (splS 32 s) 3 = k3 at *
    generalize wdX (splS 32 s) 4 = k4 at *
    generalize wdX (splS 32 s) 5 = k5 at *
    generalize wdX (splS 32 s) 6 = k6 at *
    generalize wdX (splS 32 s) 7 = k7 at *
    generalize wdX (splS 32 s) 8 = k8 at *
    generalize wdX (splS 32 s) 9 = k9 at *
    generalize eqB k6 ⟨#[114]⟩ = b6 at *
    generalize eqB k2 ⟨#[111]⟩ = b2 at *
    generalize splS 32 s = WL at *
    go_enter Tryz.func14, Tryz.ntmps14
    go_wp2_with fail
    refine (HSP.out _).mono ?_
    rintro e1 W0 ⟨v, rfl, hbuf⟩
    have hb0 := hbuf.below
    have HA0 := hideB2 (A0.out.later hb0)
    have HB0 := hideB2 (below_then HB.out hb0)
    have hwG := HA0.out.lt
    rcases hbuf.own.2 with ⟨_, h2⟩ | ⟨g, cap, cur, h1, hg, hh, hc, _⟩
    · exfalso
      have h3 := H10.out
      rw [h3] at h2
      cases h2
    have hv : v = .slice (some ⟨g, 0, none⟩) 10 cap := by rw [h1, H10.out]
    have HC : Hid (∀ j, j < 10 → W0.cell? ⟨g, j, none⟩ = some (.string ([k0, k1, k2, k3, k4, k5, k6, k7, k8, k9].getD j ⟨#[]⟩))) := by
      intro j hj
      have := hbuf.own.cells (g := g) (by rw [h1]; rfl) j (.string ([k0, k1, k2, k3, k4, k5, k6, k7, k8, k9].getD j ⟨#[]⟩)) (by rw [List.getElem?_map, HCW.out j hj]; rfl)
      rwa [Addr.add_lit, Nat.zero_add] at this
    have hgl := World.block_lt_of_cell? _ _ (HC.out 0 (by omega))
    clear hbuf h1 hh hc hb0 HSP HCW HB A0
    subst hv
    go_wp2_with fail
    have d0 : ∀ o, (W0.alloc o).cell? ⟨g, 0, none⟩ = some (.string k0) := fun o => by rw [(below_a1 W0 o).cell (p := ⟨g, 0, none⟩) hgl]; exact HC.out 0 (by omega)
    have d3 : ∀ o, (W0.alloc o).cell? ⟨g, 3, none⟩ = some (.string k3) := fun o => by rw [(below_a1 W0 o).cell (p := ⟨g, 3, none⟩) hgl]; exact HC.out 3 (by omega)
    have d5 : ∀ o, (W0.alloc o).cell? ⟨g, 5, none⟩ = some (.string k5) := fun o => by rw [(below_a1 W0 o).cell (p := ⟨g, 5, none⟩) hgl]; exact HC.out 5 (by omega)
    have d6 : ∀ o, (W0.alloc o).cell? ⟨g, 6, none⟩ = some (.string k6) := fun o => by rw [(below_a1 W0 o).cell (p := ⟨g, 6, none⟩) hgl]; exact HC.out 6 (by omega)
    have e0 : W0.cell? ⟨g, 0, none⟩ = some (.string k0) := HC.out 0 (by omega)
    have e3 : W0.cell? ⟨g, 3, none⟩ = some (.string k3) := HC.out 3 (by omega)
    have e5 : W0.cell? ⟨g, 5, none⟩ = some (.string k5) := HC.out 5 (by omega)
    have e6 : W0.cell? ⟨g, 6, none⟩ = some (.string k6) := HC.out 6 (by omega)
    go_cut [5] (fun c wc => c = .pointer (some ⟨W0.heap.size, 0, none⟩) ∧ Below W0.heap.size W0 wc ∧ Blk wc W0.heap.size #[.string k0, .int .i64 0, .int .i64 0, .string k3, .int .i64 0, .string k5, .bool b6, .int .i64 0, .int .i64 0, .int .i64 0] 26)
    case first =>
      go_region
      all_goals
        go_wp2_with fail
        go_meet
        exact ⟨rfl, (below_a1 W0 _).drew, (Blk.new W0 _ _).drew⟩
    case rest =>
      obtain ⟨rfl, hb1, N1⟩ := hcut
      clear d0 d3 d5 d6 e0 e3 e5 e6
      have hgG : g ≠ W0.heap.size := by omega
      have hwG2 : w.heap.size ≠ W0.heap.size := by omega
      have hGA : W0.heap.size ≠ w.heap.size := by omega
      have hG0 : W0.heap.size ≤ W0.heap.size := Nat.le_refl _
      have HA1 := hideB2 (HA0.out.later hb1)
      have HBW := hideB2 (fun W (k : Below W0.heap.size W0 W) => below_then HB0.out k)
      generalize hGG : W0.heap.size = G at *
      have HGW := hideB2 (show G ≤ W0.heap.size by omega)
      clear HA0 HB0 hGG
      cases b2
      · skip
        have c1 : wc.cell? ⟨g, 1, none⟩ = some (.string k1) := by rw [(hb1).cell (p := ⟨g, 1, none⟩) hgl]; exact HC.out 1 (by omega)
        have HN1 := hideB2 N1
        have HL1 : Hid (Below G W0 wc) := hideB2 hb1
        clear N1 hb1
        go_wp2_with fail
        refine (sReadStamp_all k1 _).mono ?_
        rintro ee v1 ⟨rfl, hv⟩
        clear c1
        have Q1 := HN1.out.later hv
        have hq1 : Below G W0 v1 := HL1.out.trans (hv.mono (Nat.le_trans HGW.out HL1.out.size))
        have HAq1 := hideB2 (HA1.out.later hv)
        clear hv
        have x1 : v1.cell? ⟨G, 1, none⟩ = some (.int .i64 0) := Q1.cell 1
        have f1 := Q1.free 1
        generalize hy1 : rsN k1 = y1 at *
        have HY1 := hideB2 hy1
        clear hy1
        have R1 : Blk (v1.setCell ⟨G, 1, none⟩ (.int .i64 y1)) G #[.string k0, .int .i64 y1, .int .i64 0, .string k3, .int .i64 0, .string k5, .bool b6, .int .i64 0, .int .i64 0, .int .i64 0] 26 := Q1.set 1 _
        have hr1 : Below G W0 (v1.setCell ⟨G, 1, none⟩ (.int .i64 y1)) := hq1.setCell (p := ⟨G, 1, none⟩) hG0 _
        have HAr1 := hideB2 (HAq1.out.other (b' := G) hGA 1 (.int .i64 y1))
        clear Q1 hq1 HN1 HL1 HAq1 HA1
        have c2 : (v1.setCell ⟨G, 1, none⟩ (.int .i64 y1)).cell? ⟨g, 2, none⟩ = some (.string k2) := by rw [(hr1).cell (p := ⟨g, 2, none⟩) hgl]; exact HC.out 2 (by omega)
        have c4 : (v1.setCell ⟨G, 1, none⟩ (.int .i64 y1)).cell? ⟨g, 4, none⟩ = some (.string k4) := by rw [(hr1).cell (p := ⟨g, 4, none⟩) hgl]; exact HC.out 4 (by omega)
        have HN3 := hideB2 R1
        have HL3 : Hid (Below G W0 (v1.setCell ⟨G, 1, none⟩ (.int .i64 y1))) := hideB2 hr1
        clear R1 hr1
        go_wp2_with fail
        refine (sReadDec_any k4 _ hk4).mono ?_
        rintro ee v3 ⟨rfl, hv⟩
        clear x1 f1 c2 c4
        have Q3 := HN3.out.later hv
        have hq3 : Below G W0 v3 := HL3.out.trans (hv.mono (Nat.le_trans HGW.out HL3.out.size))
        have HAq3 := hideB2 (HAr1.out.later hv)
        clear hv
        have x4 : v3.cell? ⟨G, 4, none⟩ = some (.int .i64 0) := Q3.cell 4
        have f4 := Q3.free 4
        generalize hy3 : rdecN k4 = y3 at *
        have HY3 := hideB2 hy3
        clear hy3
        have R3 : Blk (v3.setCell ⟨G, 4, none⟩ (.int .i64 y3)) G #[.string k0, .int .i64 y1, .int .i64 0, .string k3, .int .i64 y3, .string k5, .bool b6, .int .i64 0, .int .i64 0, .int .i64 0] 26 := Q3.set 4 _
        have hr3 : Below G W0 (v3.setCell ⟨G, 4, none⟩ (.int .i64 y3)) := hq3.setCell (p := ⟨G, 4, none⟩) hG0 _
        have HAr3 := hideB2 (HAq3.out.other (b' := G) hGA 4 (.int .i64 y3))
        clear Q3 hq3 HN3 HL3 HAq3 HAr1
        have c7 : (v3.setCell ⟨G, 4, none⟩ (.int .i64 y3)).cell? ⟨g, 7, none⟩ = some (.string k7) := by rw [(hr3).cell (p := ⟨g, 7, none⟩) hgl]; exact HC.out 7 (by omega)
        have HN4 := hideB2 R3
        have HL4 : Hid (Below G W0 (v3.setCell ⟨G, 4, none⟩ (.int .i64 y3))) := hideB2 hr3
        clear R3 hr3
        go_wp2_with fail
        refine (sReadDec_any k7 _ hk7).mono ?_
        rintro ee v4 ⟨rfl, hv⟩
        clear x4 f4 c7
        have Q4 := HN4.out.later hv
        have hq4 : Below G W0 v4 := HL4.out.trans (hv.mono (Nat.le_trans HGW.out HL4.out.size))
        have HAq4 := hideB2 (HAr3.out.later hv)
        clear hv
        have x7 : v4.cell? ⟨G, 7, none⟩ = some (.int .i64 0) := Q4.cell 7
        have f7 := Q4.free 7
        generalize hy4 : rdecN k7 = y4 at *
        have HY4 := hideB2 hy4
        clear hy4
        have R4 : Blk (v4.setCell ⟨G, 7, none⟩ (.int .i64 y4)) G #[.string k0, .int .i64 y1, .int .i64 0, .string k3, .int .i64 y3, .string k5, .bool b6, .int .i64 y4, .int .i64 0, .int .i64 0] 26 := Q4.set 7 _
        have hr4 : Below G W0 (v4.setCell ⟨G, 7, none⟩ (.int .i64 y4)) := hq4.setCell (p := ⟨G, 7, none⟩) hG0 _
        have HAr4 := hideB2 (HAq4.out.other (b' := G) hGA 7 (.int .i64 y4))
        clear Q4 hq4 HN4 HL4 HAq4 HAr3
        have c8 : (v4.setCell ⟨G, 7, none⟩ (.int .i64 y4)).cell? ⟨g, 8, none⟩ = some (.string k8) := by rw [(hr4).cell (p := ⟨g, 8, none⟩) hgl]; exact HC.out 8 (by omega)
        have HN5 := hideB2 R4
        have HL5 : Hid (Below G W0 (v4.setCell ⟨G, 7, none⟩ (.int .i64 y4))) := hideB2 hr4
        clear R4 hr4
        go_wp2_with fail
        refine (sReadDec_any k8 _ hk8).mono ?_
        rintro ee v5 ⟨rfl, hv⟩
        clear x7 f7 c8
        have Q5 := HN5.out.later hv
        have hq5 : Below G W0 v5 := HL5.out.trans (hv.mono (Nat.le_trans HGW.out HL5.out.size))
        have HAq5 := hideB2 (HAr4.out.later hv)
        clear hv
        have x8 : v5.cell? ⟨G, 8, none⟩ = some (.int .i64 0) := Q5.cell 8
        have f8 := Q5.free 8
        generalize hy5 : rdecN k8 = y5 at *
        have HY5 := hideB2 hy5
        clear hy5
        have R5 : Blk (v5.setCell ⟨G, 8, none⟩ (.int .i64 y5)) G #[.string k0, .int .i64 y1, .int .i64 0, .string k3, .int .i64 y3, .string k5, .bool b6, .int .i64 y4, .int .i64 y5, .int .i64 0] 26 := Q5.set 8 _
        have hr5 : Below G W0 (v5.setCell ⟨G, 8, none⟩ (.int .i64 y5)) := hq5.setCell (p := ⟨G, 8, none⟩) hG0 _
        have HAr5 := hideB2 (HAq5.out.other (b' := G) hGA 8 (.int .i64 y5))
        clear Q5 hq5 HN5 HL5 HAq5 HAr4
        have c9 : (v5.setCell ⟨G, 8, none⟩ (.int .i64 y5)).cell? ⟨g, 9, none⟩ = some (.string k9) := by rw [(hr5).cell (p := ⟨g, 9, none⟩) hgl]; exact HC.out 9 (by omega)
        have HN6 := hideB2 R5
        have HL6 : Hid (Below G W0 (v5.setCell ⟨G, 8, none⟩ (.int .i64 y5))) := hideB2 hr5
        clear R5 hr5
        go_wp2_with fail
        refine (sReadDec_any k9 _ hk9).mono ?_
        rintro ee v6 ⟨rfl, hv⟩
        clear x8 f8 c9
        have Q6 := HN6.out.later hv
        have hq6 : Below G W0 v6 := HL6.out.trans (hv.mono (Nat.le_trans HGW.out HL6.out.size))
        have HAq6 := hideB2 (HAr5.out.later hv)
        clear hv
        have x9 : v6.cell? ⟨G, 9, none⟩ = some (.int .i64 0) := Q6.cell 9
        have f9 := Q6.free 9
        generalize hy6 : rdecN k9 = y6 at *
        have HY6 := hideB2 hy6
        clear hy6
        have R6 : Blk (v6.setCell ⟨G, 9, none⟩ (.int .i64 y6)) G #[.string k0, .int .i64 y1, .int .i64 0, .string k3, .int .i64 y3, .string k5, .bool b6, .int .i64 y4, .int .i64 y5, .int .i64 y6] 26 := Q6.set 9 _
        have hr6 : Below G W0 (v6.setCell ⟨G, 9, none⟩ (.int .i64 y6)) := hq6.setCell (p := ⟨G, 9, none⟩) hG0 _
        have HAr6 := hideB2 (HAq6.out.other (b' := G) hGA 9 (.int .i64 y6))
        clear Q6 hq6 HN6 HL6 HAq6 HAr5
        have HX : Hid (X = ⟨k0, y1, 0, k3, y3, k5, b6, y4, y5, y6⟩) := HR.out
        clear HR
        rw [HX.out] at HLT HY
        unfold lxV at *
        simp only at HLT
        have HAZ := hideB2 HAr6.out
        have HBZ := hideB2 (HBW.out _ hr6)
        have HBL := hideB2 R6
        obtain ⟨x0, x1, x2, x3, x4, x5, x6, x7, x8, x9⟩ := HBL.out.c10
        clear R6 hr6
        go_wp2_with fail
        refine (HLT.out _).mono ?_
        rintro e3 w3 ⟨rfl, hb3⟩
        have B3 := hideB2 (HBL.out.later hb3)
        have A3 := hideB2 (HAZ.out.later hb3)
        have HB3 := hideB2 (below_then HBZ.out hb3)
        clear hb3 HBL HAZ HBZ HLT x0 x1 x2 x3 x4 x5 x6 x7 x8 x9
        obtain ⟨a0, a1, a2, a3, a4, a5, a6, a7, a8, a9⟩ := A3.out.c10
        obtain ⟨g0, g1, g2, g3, g4, g5, g6, g7, g8, g9⟩ := A3.out.f10
        cases b
        · have HUO := hideB2 (HN.out rfl)
          have HF := hideB2 (show Ending.returned (.tuple #[.agg #[.string ⟨#[]⟩, .int .i64 0, .int .i64 0, .string ⟨#[]⟩, .int .i64 0, .string ⟨#[]⟩, .bool false, .int .i64 0, .int .i64 0, .int .i64 0], .bool false]) = .returned (.tuple #[.agg #[.string RX.ke, .int .i64 RX.ti, .int .i64 RX.si, .string RX.me, .int .i64 RX.st, .string RX.la, .bool RX.rv, .int .i64 RX.se, .int .i64 RX.wh, .int .i64 RX.sz], .bool RO]) by obtain ⟨h1, h2⟩ := HUO.out; rw [h1, h2]; rfl)
          clear B3
          go_wp2
          refine bodyPost_ret (results_cellT rfl _ _ _ rfl (A3.out.put10 _ _ _ _ _ _ _ _ _ _) Tryz.underlying26 Tryz.infoX2) rfl ⟨?_, ?_⟩
          · exact HF.out
          exact below_put10 HB3.out (Nat.le_refl _) _ _ _ _ _ _ _ _ _ _
        · have HUO := hideB2 (HY.out rfl)
          have HF := hideB2 (show Ending.returned (.tuple #[.agg #[.string k0, .int .i64 y1, .int .i64 0, .string k3, .int .i64 y3, .string k5, .bool b6, .int .i64 y4, .int .i64 y5, .int .i64 y6], .bool true]) = .returned (.tuple #[.agg #[.string RX.ke, .int .i64 RX.ti, .int .i64 RX.si, .string RX.me, .int .i64 RX.st, .string RX.la, .bool RX.rv, .int .i64 RX.se, .int .i64 RX.wh, .int .i64 RX.sz], .bool RO]) by obtain ⟨h1, h2⟩ := HUO.out; rw [h1, h2])
          obtain ⟨p0, p1, p2, p3, p4, p5, p6, p7, p8, p9⟩ := B3.out.c10
          clear B3
          go_wp2
          refine bodyPost_ret (results_cellT rfl _ _ _ rfl (A3.out.put10 _ _ _ _ _ _ _ _ _ _) Tryz.underlying26 Tryz.infoX2) rfl ⟨?_, ?_⟩
          · exact HF.out
          exact below_put10 HB3.out (Nat.le_refl _) _ _ _ _ _ _ _ _ _ _
      · skip
        have c1 : wc.cell? ⟨g, 1, none⟩ = some (.string k1) := by rw [(hb1).cell (p := ⟨g, 1, none⟩) hgl]; exact HC.out 1 (by omega)
        have HN1 := hideB2 N1
        have HL1 : Hid (Below G W0 wc) := hideB2 hb1
        clear N1 hb1
        go_wp2_with fail
        refine (sReadStamp_all k1 _).mono ?_
        rintro ee v1 ⟨rfl, hv⟩
        clear c1
        have Q1 := HN1.out.later hv
        have hq1 : Below G W0 v1 := HL1.out.trans (hv.mono (Nat.le_trans HGW.out HL1.out.size))
        have HAq1 := hideB2 (HA1.out.later hv)
        clear hv
        have x1 : v1.cell? ⟨G, 1, none⟩ = some (.int .i64 0) := Q1.cell 1
        have f1 := Q1.free 1
        generalize hy1 : rsN k1 = y1 at *
        have HY1 := hideB2 hy1
        clear hy1
        have R1 : Blk (v1.setCell ⟨G, 1, none⟩ (.int .i64 y1)) G #[.string k0, .int .i64 y1, .int .i64 0, .string k3, .int .i64 0, .string k5, .bool b6, .int .i64 0, .int .i64 0, .int .i64 0] 26 := Q1.set 1 _
        have hr1 : Below G W0 (v1.setCell ⟨G, 1, none⟩ (.int .i64 y1)) := hq1.setCell (p := ⟨G, 1, none⟩) hG0 _
        have HAr1 := hideB2 (HAq1.out.other (b' := G) hGA 1 (.int .i64 y1))
        clear Q1 hq1 HN1 HL1 HAq1 HA1
        have c2 : (v1.setCell ⟨G, 1, none⟩ (.int .i64 y1)).cell? ⟨g, 2, none⟩ = some (.string k2) := by rw [(hr1).cell (p := ⟨g, 2, none⟩) hgl]; exact HC.out 2 (by omega)
        have x2 : (v1.setCell ⟨G, 1, none⟩ (.int .i64 y1)).cell? ⟨G, 2, none⟩ = some (.int .i64 0) := R1.cell 2
        have f2 := R1.free 2
        have M2 : Blk ((v1.setCell ⟨G, 1, none⟩ (.int .i64 y1)).setCell ⟨G, 2, none⟩ (.int .i64 1)) G #[.string k0, .int .i64 y1, .int .i64 1, .string k3, .int .i64 0, .string k5, .bool b6, .int .i64 0, .int .i64 0, .int .i64 0] 26 := R1.set 2 _
        have hm2 : Below G W0 ((v1.setCell ⟨G, 1, none⟩ (.int .i64 y1)).setCell ⟨G, 2, none⟩ (.int .i64 1)) := hr1.setCell (p := ⟨G, 2, none⟩) hG0 _
        have HAm2 := hideB2 (HAr1.out.other (b' := G) hGA 2 (.int .i64 1))
        clear R1 hr1
        have c4 : ((v1.setCell ⟨G, 1, none⟩ (.int .i64 y1)).setCell ⟨G, 2, none⟩ (.int .i64 1)).cell? ⟨g, 4, none⟩ = some (.string k4) := by rw [(hm2).cell (p := ⟨g, 4, none⟩) hgl]; exact HC.out 4 (by omega)
        have HN3 := hideB2 M2
        have HL3 : Hid (Below G W0 ((v1.setCell ⟨G, 1, none⟩ (.int .i64 y1)).setCell ⟨G, 2, none⟩ (.int .i64 1))) := hideB2 hm2
        clear M2 hm2
        go_wp2_with fail
        refine (sReadDec_any k4 _ hk4).mono ?_
        rintro ee v3 ⟨rfl, hv⟩
        clear x1 f1 c2 x2 f2 c4
        have Q3 := HN3.out.later hv
        have hq3 : Below G W0 v3 := HL3.out.trans (hv.mono (Nat.le_trans HGW.out HL3.out.size))
        have HAq3 := hideB2 (HAm2.out.later hv)
        clear hv
        have x4 : v3.cell? ⟨G, 4, none⟩ = some (.int .i64 0) := Q3.cell 4
        have f4 := Q3.free 4
        generalize hy3 : rdecN k4 = y3 at *
        have HY3 := hideB2 hy3
        clear hy3
        have R3 : Blk (v3.setCell ⟨G, 4, none⟩ (.int .i64 y3)) G #[.string k0, .int .i64 y1, .int .i64 1, .string k3, .int .i64 y3, .string k5, .bool b6, .int .i64 0, .int .i64 0, .int .i64 0] 26 := Q3.set 4 _
        have hr3 : Below G W0 (v3.setCell ⟨G, 4, none⟩ (.int .i64 y3)) := hq3.setCell (p := ⟨G, 4, none⟩) hG0 _
        have HAr3 := hideB2 (HAq3.out.other (b' := G) hGA 4 (.int .i64 y3))
        clear Q3 hq3 HN3 HL3 HAq3 HAm2
        have c7 : (v3.setCell ⟨G, 4, none⟩ (.int .i64 y3)).cell? ⟨g, 7, none⟩ = some (.string k7) := by rw [(hr3).cell (p := ⟨g, 7, none⟩) hgl]; exact HC.out 7 (by omega)
        have HN4 := hideB2 R3
        have HL4 : Hid (Below G W0 (v3.setCell ⟨G, 4, none⟩ (.int .i64 y3))) := hideB2 hr3
        clear R3 hr3
        go_wp2_with fail
        refine (sReadDec_any k7 _ hk7).mono ?_
        rintro ee v4 ⟨rfl, hv⟩
        clear x4 f4 c7
        have Q4 := HN4.out.later hv
        have hq4 : Below G W0 v4 := HL4.out.trans (hv.mono (Nat.le_trans HGW.out HL4.out.size))
        have HAq4 := hideB2 (HAr3.out.later hv)
        clear hv
        have x7 : v4.cell? ⟨G, 7, none⟩ = some (.int .i64 0) := Q4.cell 7
        have f7 := Q4.free 7
        generalize hy4 : rdecN k7 = y4 at *
        have HY4 := hideB2 hy4
        clear hy4
        have R4 : Blk (v4.setCell ⟨G, 7, none⟩ (.int .i64 y4)) G #[.string k0, .int .i64 y1, .int .i64 1, .string k3, .int .i64 y3, .string k5, .bool b6, .int .i64 y4, .int .i64 0, .int .i64 0] 26 := Q4.set 7 _
        have hr4 : Below G W0 (v4.setCell ⟨G, 7, none⟩ (.int .i64 y4)) := hq4.setCell (p := ⟨G, 7, none⟩) hG0 _
        have HAr4 := hideB2 (HAq4.out.other (b' := G) hGA 7 (.int .i64 y4))
        clear Q4 hq4 HN4 HL4 HAq4 HAr3
        have c8 : (v4.setCell ⟨G, 7, none⟩ (.int .i64 y4)).cell? ⟨g, 8, none⟩ = some (.string k8) := by rw [(hr4).cell (p := ⟨g, 8, none⟩) hgl]; exact HC.out 8 (by omega)
        have HN5 := hideB2 R4
        have HL5 : Hid (Below G W0 (v4.setCell ⟨G, 7, none⟩ (.int .i64 y4))) := hideB2 hr4
        clear R4 hr4
        go_wp2_with fail
        refine (sReadDec_any k8 _ hk8).mono ?_
        rintro ee v5 ⟨rfl, hv⟩
        clear x7 f7 c8
        have Q5 := HN5.out.later hv
        have hq5 : Below G W0 v5 := HL5.out.trans (hv.mono (Nat.le_trans HGW.out HL5.out.size))
        have HAq5 := hideB2 (HAr4.out.later hv)
        clear hv
        have x8 : v5.cell? ⟨G, 8, none⟩ = some (.int .i64 0) := Q5.cell 8
        have f8 := Q5.free 8
        generalize hy5 : rdecN k8 = y5 at *
        have HY5 := hideB2 hy5
        clear hy5
        have R5 : Blk (v5.setCell ⟨G, 8, none⟩ (.int .i64 y5)) G #[.string k0, .int .i64 y1, .int .i64 1, .string k3, .int .i64 y3, .string k5, .bool b6, .int .i64 y4, .int .i64 y5, .int .i64 0] 26 := Q5.set 8 _
        have hr5 : Below G W0 (v5.setCell ⟨G, 8, none⟩ (.int .i64 y5)) := hq5.setCell (p := ⟨G, 8, none⟩) hG0 _
        have HAr5 := hideB2 (HAq5.out.other (b' := G) hGA 8 (.int .i64 y5))
        clear Q5 hq5 HN5 HL5 HAq5 HAr4
        have c9 : (v5.setCell ⟨G, 8, none⟩ (.int .i64 y5)).cell? ⟨g, 9, none⟩ = some (.string k9) := by rw [(hr5).cell (p := ⟨g, 9, none⟩) hgl]; exact HC.out 9 (by omega)
        have HN6 := hideB2 R5
        have HL6 : Hid (Below G W0 (v5.setCell ⟨G, 8, none⟩ (.int .i64 y5))) := hideB2 hr5
        clear R5 hr5
        go_wp2_with fail
        refine (sReadDec_any k9 _ hk9).mono ?_
        rintro ee v6 ⟨rfl, hv⟩
        clear x8 f8 c9
        have Q6 := HN6.out.later hv
        have hq6 : Below G W0 v6 := HL6.out.trans (hv.mono (Nat.le_trans HGW.out HL6.out.size))
        have HAq6 := hideB2 (HAr5.out.later hv)
        clear hv
        have x9 : v6.cell? ⟨G, 9, none⟩ = some (.int .i64 0) := Q6.cell 9
        have f9 := Q6.free 9
        generalize hy6 : rdecN k9 = y6 at *
        have HY6 := hideB2 hy6
        clear hy6
        have R6 : Blk (v6.setCell ⟨G, 9, none⟩ (.int .i64 y6)) G #[.string k0, .int .i64 y1, .int .i64 1, .string k3, .int .i64 y3, .string k5, .bool b6, .int .i64 y4, .int .i64 y5, .int .i64 y6] 26 := Q6.set 9 _
        have hr6 : Below G W0 (v6.setCell ⟨G, 9, none⟩ (.int .i64 y6)) := hq6.setCell (p := ⟨G, 9, none⟩) hG0 _
        have HAr6 := hideB2 (HAq6.out.other (b' := G) hGA 9 (.int .i64 y6))
        clear Q6 hq6 HN6 HL6 HAq6 HAr5
        have HX : Hid (X = ⟨k0, y1, 1, k3, y3, k5, b6, y4, y5, y6⟩) := HR.out
        clear HR
        rw [HX.out] at HLT HY
        unfold lxV at *
        simp only at HLT
        have HAZ := hideB2 HAr6.out
        have HBZ := hideB2 (HBW.out _ hr6)
        have HBL := hideB2 R6
        obtain ⟨x0, x1, x2, x3, x4, x5, x6, x7, x8, x9⟩ := HBL.out.c10
        clear R6 hr6
        go_wp2_with fail
        refine (HLT.out _).mono ?_
        rintro e3 w3 ⟨rfl, hb3⟩
        have B3 := hideB2 (HBL.out.later hb3)
        have A3 := hideB2 (HAZ.out.later hb3)
        have HB3 := hideB2 (below_then HBZ.out hb3)
        clear hb3 HBL HAZ HBZ HLT x0 x1 x2 x3 x4 x5 x6 x7 x8 x9
        obtain ⟨a0, a1, a2, a3, a4, a5, a6, a7, a8, a9⟩ := A3.out.c10
        obtain ⟨g0, g1, g2, g3, g4, g5, g6, g7, g8, g9⟩ := A3.out.f10
        cases b
        · have HUO := hideB2 (HN.out rfl)
          have HF := hideB2 (show Ending.returned (.tuple #[.agg #[.string ⟨#[]⟩, .int .i64 0, .int .i64 0, .string ⟨#[]⟩, .int .i64 0, .string ⟨#[]⟩, .bool false, .int .i64 0, .int .i64 0, .int .i64 0], .bool false]) = .returned (.tuple #[.agg #[.string RX.ke, .int .i64 RX.ti, .int .i64 RX.si, .string RX.me, .int .i64 RX.st, .string RX.la, .bool RX.rv, .int .i64 RX.se, .int .i64 RX.wh, .int .i64 RX.sz], .bool RO]) by obtain ⟨h1, h2⟩ := HUO.out; rw [h1, h2]; rfl)
          clear B3
          go_wp2
          refine bodyPost_ret (results_cellT rfl _ _ _ rfl (A3.out.put10 _ _ _ _ _ _ _ _ _ _) Tryz.underlying26 Tryz.infoX2) rfl ⟨?_, ?_⟩
          · exact HF.out
          exact below_put10 HB3.out (Nat.le_refl _) _ _ _ _ _ _ _ _ _ _
        · have HUO := hideB2 (HY.out rfl)
          have HF := hideB2 (show Ending.returned (.tuple #[.agg #[.string k0, .int .i64 y1, .int .i64 1, .string k3, .int .i64 y3, .string k5, .bool b6, .int .i64 y4, .int .i64 y5, .int .i64 y6], .bool true]) = .returned (.tuple #[.agg #[.string RX.ke, .int .i64 RX.ti, .int .i64 RX.si, .string RX.me, .int .i64 RX.st, .string RX.la, .bool RX.rv, .int .i64 RX.se, .int .i64 RX.wh, .int .i64 RX.sz], .bool RO]) by obtain ⟨h1, h2⟩ := HUO.out; rw [h1, h2])
          obtain ⟨p0, p1, p2, p3, p4, p5, p6, p7, p8, p9⟩ := B3.out.c10
          clear B3
          go_wp2
          refine bodyPost_ret (results_cellT rfl _ _ _ rfl (A3.out.put10 _ _ _ _ _ _ _ _ _ _) Tryz.underlying26 Tryz.infoX2) rfl ⟨?_, ?_⟩
          · exact HF.out
          exact below_put10 HB3.out (Nat.le_refl _) _ _ _ _ _ _ _ _ _ _
  · have HUO := hideB2 (rdlO_no1 h10)
    have H10 := hideB2 h10
    have HF := hideB2 (show Ending.returned (.tuple #[.agg #[.string ⟨#[]⟩, .int .i64 0, .int .i64 0, .string ⟨#[]⟩, .int .i64 0, .string ⟨#[]⟩, .bool false, .int .i64 0, .int .i64 0, .int .i64 0], .bool false]) = .returned (.tuple #[lxV (rdlX s), .bool (rdlO s)]) by obtain ⟨h1, h2⟩ := HUO.out; rw [h1, h2]; rfl)
    have hln := (splS_le 32 s).1
    generalize rdlX s = RX at *
    generalize rdlO s = RO at *
    generalize splS 32 s = WL at *
    clear h10 HUO
    go_enter Tryz.func14, Tryz.ntmps14
    go_wp2_with fail
    refine (HSP.out _).mono ?_
    rintro e1 w1 ⟨v, rfl, hbuf⟩
    obtain ⟨a, c, hvf⟩ := hbuf.form
    have hb1 := hbuf.below
    have hne' : ((WL.length : Int) != 10) = true := by rw [bne_iff_ne]; have := H10.out; omega
    have A1 := hideB2 (A0.out.later hb1)
    have HB1 := hideB2 (below_then HB.out hb1)
    obtain ⟨a0, a1, a2, a3, a4, a5, a6, a7, a8, a9⟩ := A1.out.c10
    obtain ⟨g0, g1, g2, g3, g4, g5, g6, g7, g8, g9⟩ := A1.out.f10
    clear hb1 HSP A0 HB hbuf
    subst hvf
    go_wp2
    refine bodyPost_ret (results_cellT rfl _ _ _ rfl (A1.out.put10 _ _ _ _ _ _ _ _ _ _) Tryz.underlying26 Tryz.infoX2) rfl ⟨?_, ?_⟩
    · exact HF.out
    exact below_put10 HB1.out (Nat.le_refl _) _ _ _ _ _ _ _ _ _ _
end Go.Proofs.YtenjbgpndkodmabGreatDoor
namespace Go.Proofs.YtenjbgpndkodmabGreatDoor
set_option linter.unusedVariables false
set_option linter.unusedSimpArgs false
open Go.ChangeShapes Go.WideShapes Go.ChangeAt Go.RowKit

/-- A block's cells, laid anew. -/
def laidRow (cs : Array Value) : Obj → Obj
  | .cells _ t frozen => .cells cs t frozen
  | o => o
theorem laid_mem {P : Program} {w : World} : ∀ {l : List (String × DataW Unit)} {ps : List MemPlace}, DataW.LaidVars P w l ps → ∀ (n : String) (d : DataW Unit), (n, d) ∈ l →
    ∃ g t cs fuel p, P.globalNamed n = some g ∧ (P.globals[g]?).map (·.type) = some t ∧ w.var? P n = some cs ∧ DataW.trod (fun _ => ()) P w 0 (fun _ => true) false fuel t cs.toList = some (d, p)
  | [], _, _, n, d, hm => by simp at hm
  | (n0, d0) :: r, ps, h, n, d, hm => by
    obtain ⟨g, t, cs, fuel, p, q, h1, h2, h3, h4, h5, _⟩ := h
    rcases List.mem_cons.1 hm with e | e
    · cases e
      exact ⟨g, t, cs, fuel, p, h1, h2, h3, h4⟩
    · exact laid_mem h5 n d e
end Go.Proofs.YtenjbgpndkodmabGreatDoor
namespace Go.Proofs.YtenjbgpndkodmabGreatDoor
set_option linter.unusedVariables false
set_option linter.unusedSimpArgs false
open Go.ChangeShapes Go.WideShapes Go.ChangeAt Go.RowKit
theorem dectab_of_laid {W : World} {l : List (String × DataW Unit)} (hm : ("internal/strconv.uint64pow10", Rows.laid_internal_strconv_uint64pow10) ∈ l) (h : laidMet Tryz.prog l W) : Tab10 W := by
  obtain ⟨ps, hl, _⟩ := h
  obtain ⟨g, t, cs, fuel, p, h1, h2, h3, h4⟩ := laid_mem hl _ _ hm
  have hg : Tryz.prog.globalNamed "internal/strconv.uint64pow10" = some 2 := by kernel_rfl
  have ht : (Tryz.prog.globals[2]?).map (·.type) = some 148 := by kernel_rfl
  obtain rfl := Option.some.inj (hg.symm.trans h1)
  obtain rfl := Option.some.inj (ht.symm.trans h2)
  have hc := Lib.cells_of_tab (k := .u64) (zs := Lib.pow10Tab) Tryz.underlying148 Tryz.underlying132 (by kernel_rfl) (by kernel_rfl) h4
  unfold Tab10 Lib.TabIs
  rw [h3, ← hc]
end Go.Proofs.YtenjbgpndkodmabGreatDoor
namespace Go.Proofs.YtenjbgpndkodmabGreatDoor
set_option linter.unusedVariables false
set_option linter.unusedSimpArgs false
open Go.ChangeShapes Go.WideShapes Go.ChangeAt Go.RowKit

/-- A table of texts as a row lists it, and what its cells hold. -/
def stabData {H : Type} (zs : List (List UInt8)) : DataW H := .agg (zs.map fun z => .lit (.string z))
theorem cells_of_stab {H : Type} {enc : TypeId × Value → H} {P : Program} {w : World} {base : Nat} {sp : Nat → Bool} {held : Bool} {fuel : Nat} {t e : TypeId} {n : Nat} {cs : List Value} {zs : List (List UInt8)} {p : List MemPlace}
    (ht : P.underlying t = some (.array n e)) (he : P.underlying e = some .string) (hce : P.cellsOf e = 1) (hct : P.cellsOf t = n)
    (h : DataW.trod enc P w base sp held fuel t cs = some (stabData zs, p)) : cs = zs.map fun z => Value.string ⟨z.toArray⟩ := by
  cases fuel with
  | zero => simp [DataW.trod] at h
  | succ fuel =>
    simp only [DataW.trod, ht, hce, hct, Nat.mul_one] at h
    split at h
    · rename_i hl
      obtain ⟨xs, hm, hx⟩ := Option.map_eq_some_iff.1 h
      have hxs : xs.map (·.1) = zs.map fun z => (DataW.lit (.string z) : DataW H) := by
        have := congrArg Prod.fst hx
        simpa [stabData] using this
      have hxl : xs.length = n := by simpa using Lib.mapM_length hm
      have hzl : zs.length = n := by
        have := congrArg List.length hxs
        simp at this
        omega
      apply List.ext_getElem?
      intro i
      by_cases hi : i < n
      · obtain ⟨b, hb, hf⟩ := Lib.mapM_at hm i i (by simp [hi])
        obtain ⟨z, hc, rfl, _⟩ := DataW.trod_string he hf
        have h1 : cs[i]? = some (.string z) := by
          have := congrArg (·[0]?) hc
          simpa [List.getElem?_take, List.getElem?_drop] using this
        have h2 : (xs.map (·.1))[i]? = some (DataW.lit (.string z.data.toList) : DataW H) := by simp [hb]
        rw [hxs] at h2
        simp only [List.getElem?_map, Option.map_eq_some_iff, DataW.lit.injEq, Lit.string.injEq] at h2
        obtain ⟨z', hz', rfl⟩ := h2
        simp [h1, hz']
      · rw [List.getElem?_eq_none (by omega), List.getElem?_eq_none (by simp; omega)]
    · cases h
theorem trodVars_one' {H : Type} {enc : TypeId × Value → H} {P : Program} {w : World} {sp : Nat → Bool} {n : String} : ∀ {gs : List (DataW H)} {ps : List MemPlace}, DataW.TrodVars enc P w sp [n] gs ps → ∃ a, gs = [a]
  | [a], _, _ => ⟨a, rfl⟩
  | [], _, h => h.elim
  | _ :: _ :: _, _, h => by obtain ⟨_, _, _, _, _, _, _, _, _, _, h, _⟩ := h; exact h.elim
theorem trodVars_three' {H : Type} {enc : TypeId × Value → H} {P : Program} {w : World} {sp : Nat → Bool} {n0 n1 n2 : String} : ∀ {gs : List (DataW H)} {ps : List MemPlace}, DataW.TrodVars enc P w sp [n0, n1, n2] gs ps → ∃ a b c, gs = [a, b, c]
  | [a, b, c], _, _ => ⟨a, b, c, rfl⟩
  | [], _, h => h.elim
  | [_], _, h => by obtain ⟨_, _, _, _, _, _, _, _, _, _, h, _⟩ := h; exact h.elim
  | [_, _], _, h => by
    obtain ⟨_, _, _, _, _, _, _, _, _, _, h, _⟩ := h
    obtain ⟨_, _, _, _, _, _, _, _, _, _, h, _⟩ := h
    exact h.elim
  | _ :: _ :: _ :: _ :: _, _, h => by
    obtain ⟨_, _, _, _, _, _, _, _, _, _, h, _⟩ := h
    obtain ⟨_, _, _, _, _, _, _, _, _, _, h, _⟩ := h
    obtain ⟨_, _, _, _, _, _, _, _, _, _, h, _⟩ := h
    exact h.elim

theorem array6 {α : Type} {cs : Array α} (h : cs.size = 6) : ∃ c0 c1 c2 c3 c4 c5, cs = #[c0, c1, c2, c3, c4, c5] := by
  obtain ⟨l⟩ := cs
  match l, h with
  | [c0, c1, c2, c3, c4, c5], _ => exact ⟨c0, c1, c2, c3, c4, c5, rfl⟩
/-- A struct of six ints, by value, opened. -/
theorem open_civ {H : Type} {enc : TypeId × Value → H} {P : Program} {w : World} {base : Nat} {spare : Nat → Bool} {held : Bool} {r : Reach} {b0 : Nat} {t : TypeId} {f0 f1 f2 f3 f4 f5 : Field} {v : Value} {d : DataW H} {p : List MemPlace}
    (hs : P.underlying t = some (.struct #[f0, f1, f2, f3, f4, f5])) (hone : Go.Deep.oneCellFields P #[f0, f1, f2, f3, f4, f5] = true) (hC : P.cellsOf t = 6)
    (e0 : P.underlying f0.type = some (.int .i64)) (e1 : P.underlying f1.type = some (.int .i64)) (e2 : P.underlying f2.type = some (.int .i64)) (e3 : P.underlying f3.type = some (.int .i64)) (e4 : P.underlying f4.type = some (.int .i64)) (e5 : P.underlying f5.type = some (.int .i64))
    (hv : Value.okWide P w r b0 t v) (h : DataW.Trod enc P w base spare held t v d p) :
    ∃ a b c d e f : Int, v = civ a b c d e f ∧ (Lit.int .i64 a).wf = true ∧ (Lit.int .i64 b).wf = true ∧ (Lit.int .i64 c).wf = true ∧ (Lit.int .i64 d).wf = true ∧ (Lit.int .i64 e).wf = true ∧ (Lit.int .i64 f).wf = true := by
  obtain ⟨cs, rfl, hsz⟩ := okWide_struct hs hv
  obtain ⟨c0, c1, c2, c3, c4, c5, rfl⟩ := array6 (hsz.trans hC)
  obtain ⟨fuel, hf⟩ := h
  obtain ⟨xs, n, _, _, hl, hlen, hf⟩ := DataW.trod_struct hs hf
  obtain ⟨o0, k0⟩ := Go.Deep.hone_of hone 0 f0 rfl
  obtain ⟨o1, k1⟩ := Go.Deep.hone_of hone 1 f1 rfl
  obtain ⟨o2, k2⟩ := Go.Deep.hone_of hone 2 f2 rfl
  obtain ⟨o3, k3⟩ := Go.Deep.hone_of hone 3 f3 rfl
  obtain ⟨o4, k4⟩ := Go.Deep.hone_of hone 4 f4 rfl
  obtain ⟨o5, k5⟩ := Go.Deep.hone_of hone 5 f5 rfl
  have one : ∀ {ty : TypeId} {c : Value} {x : Option (DataW H × List MemPlace)}, P.underlying ty = some (.int .i64) → x.isSome = true → DataW.trod enc P w base spare held n ty [c] = x → ∃ z : Int, c = .int .i64 z ∧ (Lit.int .i64 z).wf = true := by
    intro ty c x hu hx ht
    obtain ⟨y, hy⟩ := Option.isSome_iff_exists.1 hx
    rw [hy] at ht
    obtain ⟨z, hz, _, hw⟩ := DataW.trod_int hu ht
    exact ⟨z, by simpa using hz, hw⟩
  have g : ∀ j, j < 6 → (xs[j]?).isSome = true := by
    intro j hj
    have : xs.length = 6 := by simpa using hlen
    rw [List.getElem?_eq_getElem (by omega)]; rfl
  obtain ⟨a, rfl, wa⟩ := one e0 (g 0 (by omega)) (by simpa [Value.cells, o0, k0] using hf 0 f0 rfl)
  obtain ⟨b, rfl, wb⟩ := one e1 (g 1 (by omega)) (by simpa [Value.cells, o1, k1] using hf 1 f1 rfl)
  obtain ⟨c, rfl, wc⟩ := one e2 (g 2 (by omega)) (by simpa [Value.cells, o2, k2] using hf 2 f2 rfl)
  obtain ⟨d', rfl, wd⟩ := one e3 (g 3 (by omega)) (by simpa [Value.cells, o3, k3] using hf 3 f3 rfl)
  obtain ⟨e, rfl, we⟩ := one e4 (g 4 (by omega)) (by simpa [Value.cells, o4, k4] using hf 4 f4 rfl)
  obtain ⟨f, rfl, wf⟩ := one e5 (g 5 (by omega)) (by simpa [Value.cells, o5, k5] using hf 5 f5 rfl)
  exact ⟨a, b, c, d', e, f, rfl, wa, wb, wc, wd, we, wf⟩
theorem montab_of_laid {W : World} {l : List (String × DataW Unit)} (hm : ("loop.example/g00651/impl.monthLengths", Rows.laid_loop_example_g00651_impl_monthLengths) ∈ l) (h : laidMet Tryz.prog l W) : MonTab W := by
  obtain ⟨ps, hl, _⟩ := h
  obtain ⟨g, t, cs, fuel, p, h1, h2, h3, h4⟩ := laid_mem hl _ _ hm
  have hg : Tryz.prog.globalNamed "loop.example/g00651/impl.monthLengths" = some 0 := by kernel_rfl
  have ht : (Tryz.prog.globals[0]?).map (·.type) = some 116 := by kernel_rfl
  obtain rfl := Option.some.inj (hg.symm.trans h1)
  obtain rfl := Option.some.inj (ht.symm.trans h2)
  have hc := Lib.cells_of_tab (k := .i64) (zs := [0, 31, 28, 31, 30, 31, 30, 31, 31, 30, 31, 30, 31]) Tryz.underlying116 Tryz.underlying3 (by kernel_rfl) (by kernel_rfl) h4
  have hT : Lib.TabIs Tryz.prog W "loop.example/g00651/impl.monthLengths" .i64 [0, 31, 28, 31, 30, 31, 30, 31, 31, 30, 31, 30, 31] := by
    unfold Lib.TabIs
    rw [h3, ← hc]
  intro k hk
  exact hT.cell hg k hk
end Go.Proofs.YtenjbgpndkodmabGreatDoor
