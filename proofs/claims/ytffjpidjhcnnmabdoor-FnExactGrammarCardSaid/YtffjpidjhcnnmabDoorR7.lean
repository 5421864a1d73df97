/-
  Chapter 8: a looser reader's lines; the program's side.
-/
import Derived.Test.YtffjpidjhcnnmabDoorR6
namespace Go.Proofs.YtffjpidjhcnnmabDoor
set_option linter.unusedVariables false
set_option linter.unusedSimpArgs false
open Go.RowKit
theorem Tryd.infoCur8 : (Tryd.prog.info? 25).map (·.size) = some 2 := by kernel_rfl
theorem results_tCt {fn : Func} {p u t' : Tmp} {ty : TypeId} (h : fn.results = #[.tmp u, .cell p ty, .tmp t']) (tmps : Array Value) (P : Program) (w : World) {b : Nat} {c : Array Value} {t : TypeId} {fs : Array Field} (hp : tmps.getD p undef = .pointer (some ⟨b, 0, none⟩)) (hB : Blk w b c t)
    (hu : P.underlying ty = some (.struct fs)) (hi : (P.info? ty).map (·.size) = some c.size) : (results fn tmps).run P w = .ok (.tuple #[tmps.getD u undef, .agg c, tmps.getD t' undef]) w := by
  have hrun := run_loadVar_row (P := P) w b t ty c (0, 0) _ hB hu rfl hi
  have ha : (asAddr (tmps[p]?.getD undef)).run P w = .ok ⟨b, 0, none⟩ w := by rw [← Array.getD_eq_getD_getElem?, hp]; rfl
  simp [results, h, Sem.run_bind, Result.andThen, ha, hrun]
theorem results_CCt {fn : Func} {p p2 t' : Tmp} {ty ty2 : TypeId} (h : fn.results = #[.cell p ty, .cell p2 ty2, .tmp t']) (tmps : Array Value) (P : Program) (w : World) {b b2 : Nat} {c c2 : Array Value} {t t2 : TypeId} {fs fs2 : Array Field} (hp : tmps.getD p undef = .pointer (some ⟨b, 0, none⟩)) (hB : Blk w b c t)
    (hp2 : tmps.getD p2 undef = .pointer (some ⟨b2, 0, none⟩)) (hB2 : Blk w b2 c2 t2)
    (hu : P.underlying ty = some (.struct fs)) (hi : (P.info? ty).map (·.size) = some c.size) (hu2 : P.underlying ty2 = some (.struct fs2)) (hi2 : (P.info? ty2).map (·.size) = some c2.size) : (results fn tmps).run P w = .ok (.tuple #[.agg c, .agg c2, tmps.getD t' undef]) w := by
  have hrun := run_loadVar_row (P := P) w b t ty c (0, 0) _ hB hu rfl hi
  have ha : (asAddr (tmps[p]?.getD undef)).run P w = .ok ⟨b, 0, none⟩ w := by rw [← Array.getD_eq_getD_getElem?, hp]; rfl
  have hrun2 := run_loadVar_row (P := P) w b2 t2 ty2 c2 (0, 0) _ hB2 hu2 rfl hi2
  have ha2 : (asAddr (tmps[p2]?.getD undef)).run P w = .ok ⟨b2, 0, none⟩ w := by rw [← Array.getD_eq_getD_getElem?, hp2]; rfl
  simp [results, h, Sem.run_bind, Result.andThen, ha, hrun, ha2, hrun2]
/-- The number in a cursor's block. -/
def curAt (w : World) (g : Nat) : Nat := ((w.cell? ⟨g, 1, none⟩).map fun v => (intOf v).toNat).getD 0
theorem curAt_blk {w : World} {g k : Nat} {s : ByteArray} {t : TypeId} (h : Blk w g #[.string s, .int .i64 (k : Int)] t) : curAt w g = k := by
  unfold curAt
  rw [h.cell 1]
  show (intOf (.int .i64 (k : Int))).toNat = k
  simp [intOf]
set_option maxRecDepth 100000 in
set_option maxHeartbeats 8000000 in
theorem takeLooseLines_any (s : ByteArray) (k0 : Nat) (w : World) (hs : s.size ≤ 1048576) (hk0 : k0 ≤ s.size) :
    Calls Tryd.prog 19 #[.agg #[.string s, .int .i64 (k0 : Int)]] w fun e w' => ((lsF s k0 = none ∧ e = .returned (.tuple #[.slice none 0 0, .agg #[.string ⟨#[]⟩, .int .i64 0], .bool false])) ∨ (∃ l k' v, lsF s k0 = some (l, k') ∧ e = .returned (.tuple #[v, .agg #[.string s, .int .i64 ((k' : Nat) : Int)], .bool true]) ∧ SlW w' v l ∧ ∀ g, v.ownBlock = some g → w.heap.size ≤ g)) ∧ Below w.heap.size w w' := by
  have hsm : s.size ≤ maxLen := by unfold maxLen; omega
  have HS := hideB2 hs
  have HSM := hideB2 hsm
  have HK0 := hideB2 hk0
  generalize hX : lsF s k0 = X
  have HX := hideB2 hX
  have HB := hideB2 (below_a2 w (.cells #[.string s, .int .i64 (k0 : Int)] 25) (.cells #[.string ⟨#[]⟩, .int .i64 0] 25))
  have A0 := hideB2 ((Blk.new w #[.string s, .int .i64 (k0 : Int)] 25).alloc (.cells #[.string ⟨#[]⟩, .int .i64 0] 25))
  have R0 := hideB2 (Blk.new (w.alloc (.cells #[.string s, .int .i64 (k0 : Int)] 25)) #[.string ⟨#[]⟩, .int .i64 0] 25)
  clear hX hs hsm hk0
  go_enter Tryd.func19, Tryd.ntmps19
  go_wp2
  have hsz1 : (w.alloc (.cells #[.string s, .int .i64 (k0 : Int)] 25)).heap.size = w.heap.size + 1 := by simp
  rw [hsz1] at R0
  have hsz2 : ((w.alloc (.cells #[.string s, .int .i64 (k0 : Int)] 25)).alloc (.cells #[.string ⟨#[]⟩, .int .i64 0] 25)).heap.size = w.heap.size + 2 := by simp
  generalize hW : (w.alloc (.cells #[.string s, .int .i64 (k0 : Int)] 25)).alloc (.cells #[.string ⟨#[]⟩, .int .i64 0] 25) = W1 at *
  clear hsz1 hW
  have HZ := hideB2 hsz2
  clear hsz2
  go_loopw [5] (fun ov wr => ∃ (k : Nat) (l : List Fd), k ≤ s.size ∧ l.length ≤ k ∧ OwW (w.heap.size + 2) wr ov l ∧ Blk wr w.heap.size #[.string s, .int .i64 (k : Int)] 25 ∧ Blk wr (w.heap.size + 1) #[.string ⟨#[]⟩, .int .i64 0] 25 ∧ Below w.heap.size w wr ∧ Hid (X = (lsF s k).map fun p => (l ++ p.1, p.2))) (fun _ wr => s.size + 1 - curAt wr w.heap.size)
  case atStart =>
    refine ⟨k0, [], HK0.out, Nat.zero_le _, OwW.start (by rw [HZ.out]; exact Nat.le_refl _), A0.out, R0.out, HB.out, ?_⟩
    show X = _
    rw [HX.out]
    cases X with
    | none => rfl
    | some p => obtain ⟨a, b⟩ := p; rfl
  case round =>
    obtain ⟨k, l, hk, hl, how, hA, hR, hbw, hx⟩ := hrel
    clear A0 R0 HB HX HZ
    have HL := hideB2 hl
    have HTL := hideB2 (fun W => TakeLine_ok s k W HSM.out hk)
    have hm := curAt_blk hA
    have HM := hideB2 hm
    have HK := hideB2 hk
    have HBW := hideB2 hbw
    have HA := hideB2 hA
    have HR := hideB2 hR
    have HO := hideB2 how
    obtain ⟨p0, p1⟩ := hA.c2
    clear hm hl hbw hA hR how
    by_cases h1 : tlC s k = 0
    · have hE := tlE_ok hk h1
      have hz := lineAt_size hk
      have hn := lenE_nil hk
      rw [tlV_ok h1] at HTL
      change Hid (∀ W, Calls _ _ _ W fun e w' => e = .returned (.tuple #[.string (lineAt s k), .agg #[.string s, .int .i64 ((tlE s k : Int) + 2)], .int .i64 0]) ∧ Below W.heap.size W w') at HTL
      have HWP := hideB2 HO.out.le
      by_cases h2 : (300 : Int) < ((lineAt s k).size : Int)
      · have hF := hideB2 (show X = none by rw [hx.out, lsF_bad hk (by unfold lkQ; rw [decide_eq_false (show ¬ tlE s k - k ≤ 300 by omega)]; simp)]; rfl)
        clear hx hz hn h1
        generalize lineAt s k = L at *
        generalize tlE s k = E at *
        go_wp2_with fail
        refine (HTL.out _).mono ?_
        rintro e w2 ⟨rfl, hb2⟩
        have R2 := hideB2 ((HR.out.later hb2).alloc (.cells #[.string s, .int .i64 ((E : Int) + 2)] 25))
        have HB2 := hideB2 (below_then (below_then HBW.out hb2) (below_a1 w2 (.cells #[.string s, .int .i64 ((E : Int) + 2)] 25)))
        clear hb2 p0 p1
        have f0 := R2.out.free 0
        have f1 := R2.out.free 1
        obtain ⟨r0, r1⟩ := R2.out.c2
        go_wp2
        refine bodyPost_ret (results_tCt rfl _ _ _ rfl (R2.out.set2 _ _) Tryd.underlying25 Tryd.infoCur8) rfl ⟨?_, ?_⟩
        · exact .inl ⟨hF.out, rfl⟩
        exact (HB2.out.setCell (p := ⟨w.heap.size + 1, 0, none⟩) (Nat.le_succ _) _).setCell (p := ⟨w.heap.size + 1, 1, none⟩) (Nat.le_succ _) _
      · have hq : lkQ s k = true := lkQ_iff.2 ⟨h1, by omega⟩
        have d2 : decide ((300 : Int) < ((lineAt s k).size : Int)) = false := decide_eq_false h2
        by_cases he : tlE s k = k
        · have hF := hideB2 (show X = some (l, k + 2) by rw [hx.out, lsF_end hk hq he]; simp)
          rw [decide_eq_true he] at hn
          rw [he] at HTL hE
          clear hx hz h1 he h2 hq
          generalize lineAt s k = L at *
          go_wp2_with fail
          refine (HTL.out _).mono ?_
          rintro e w2 ⟨rfl, hb2⟩
          have hlt1 := HR.out.lt
          have hle2 := hb2.size
          have R2 := hideB2 ((HR.out.later hb2).alloc (.cells #[.string s, .int .i64 ((k : Int) + 2)] 25))
          have N2 := hideB2 (Blk.new w2 #[.string s, .int .i64 ((k : Int) + 2)] 25)
          have O2 := hideB2 ((HO.out.later hb2).alloc (.cells #[.string s, .int .i64 ((k : Int) + 2)] 25))
          have HB2 := hideB2 (below_then (below_then HBW.out hb2) (below_a1 w2 (.cells #[.string s, .int .i64 ((k : Int) + 2)] 25)))
          clear hb2 p0 p1
          have f0 := R2.out.free 0
          have f1 := R2.out.free 1
          obtain ⟨r0, r1⟩ := R2.out.c2
          obtain ⟨q0, q1⟩ := N2.out.c2
          go_wp2
          go_region
          go_wp2
          refine bodyPost_ret (results_tCt rfl _ _ _ rfl (R2.out.drew.set2 _ _) Tryd.underlying25 Tryd.infoCur8) rfl ⟨?_, ?_⟩
          · refine .inr ⟨l, k + 2, _, hF.out, rfl, ?_, ?_⟩
            · exact ((O2.out.drew.set (g := w.heap.size + 1) (by omega) 0 _).set (g := w.heap.size + 1) (by omega) 1 _).sl
            · intro g hg
              have := (O2.out.own.lt g hg).1
              omega
          exact (HB2.out.drew.setCell (p := ⟨w.heap.size + 1, 0, none⟩) (Nat.le_succ _) _).setCell (p := ⟨w.heap.size + 1, 1, none⟩) (Nat.le_succ _) _
        · have hLz : (lineAt s k).size ≤ 1048576 := by have := HS.out; have := (lkQ_iff.1 hq).2; omega
          have HRL := hideB2 (fun W => readLooseLine_any (lineAt s k) W hLz)
          have hN := hideB2 (fun (h : llnO (lineAt s k) = false) => show X = none by rw [hx.out, lsF_no hk hq he h]; rfl)
          have hY := hideB2 (fun (h : llnO (lineAt s k) = true) => show X = (lsF s (tlE s k + 2)).map fun p => ((l ++ [llnV (lineAt s k)]) ++ p.1, p.2) by
            rw [hx.out, lsF_next hk hq he h, Option.map_map]
            congr 1
            funext p
            simp)
          have hgt := tlE_ge s k
          rw [decide_eq_false he] at hn
          clear hx hz h1 he h2 hq hLz
          generalize llnO (lineAt s k) = ok at *
          generalize llnV (lineAt s k) = V at *
          obtain ⟨V1, V2⟩ := V
          generalize lineAt s k = L at *
          generalize tlE s k = E at *
          cases ok
          · have hF := hideB2 (hN.out rfl)
            clear hN hY
            go_wp2_with fail
            refine (HTL.out _).mono ?_
            rintro e w2 ⟨rfl, hb2⟩
            have R2 := hideB2 ((HR.out.later hb2).alloc (.cells #[.string s, .int .i64 ((E : Int) + 2)] 25))
            have HB2 := hideB2 (below_then (below_then HBW.out hb2) (below_a1 w2 (.cells #[.string s, .int .i64 ((E : Int) + 2)] 25)))
            clear hb2 p0 p1
            go_wp2_with fail
            refine (HRL.out _).mono ?_
            rintro e w3 ⟨rfl, hb3⟩
            have R3 := hideB2 ((R2.out.later hb3).alloc (.cells #[.string V1, .string V2] 56))
            have HB3 := hideB2 (below_then (below_then HB2.out hb3) (below_a1 w3 (.cells #[.string V1, .string V2] 56)))
            clear hb3
            have f0 := R3.out.free 0
            have f1 := R3.out.free 1
            obtain ⟨r0, r1⟩ := R3.out.c2
            go_wp2
            refine bodyPost_ret (results_tCt rfl _ _ _ rfl (R3.out.set2 _ _) Tryd.underlying25 Tryd.infoCur8) rfl ⟨?_, ?_⟩
            · exact .inl ⟨hF.out, rfl⟩
            exact (HB3.out.setCell (p := ⟨w.heap.size + 1, 0, none⟩) (Nat.le_succ _) _).setCell (p := ⟨w.heap.size + 1, 1, none⟩) (Nat.le_succ _) _
          · have hF := hideB2 (hY.out rfl)
            clear hN hY
            go_wp2_with fail
            refine (HTL.out _).mono ?_
            rintro e w2 ⟨rfl, hb2⟩
            have A2 := hideB2 ((HA.out.later hb2).alloc (.cells #[.string s, .int .i64 ((E : Int) + 2)] 25))
            have R2 := hideB2 ((HR.out.later hb2).alloc (.cells #[.string s, .int .i64 ((E : Int) + 2)] 25))
            have N2 := hideB2 (Blk.new w2 #[.string s, .int .i64 ((E : Int) + 2)] 25)
            have O2 := hideB2 ((HO.out.later hb2).alloc (.cells #[.string s, .int .i64 ((E : Int) + 2)] 25))
            have HB2 := hideB2 (below_then (below_then HBW.out hb2) (below_a1 w2 (.cells #[.string s, .int .i64 ((E : Int) + 2)] 25)))
            have hle2 := hb2.size
            clear hb2 p0 p1
            go_wp2_with fail
            refine (HRL.out _).mono ?_
            rintro e w3 ⟨rfl, hb3⟩
            have A3 := hideB2 ((A2.out.later hb3).alloc (.cells #[.string V1, .string V2] 56))
            have R3 := hideB2 ((R2.out.later hb3).alloc (.cells #[.string V1, .string V2] 56))
            have N3 := hideB2 ((N2.out.later hb3).alloc (.cells #[.string V1, .string V2] 56))
            have O3 := hideB2 ((O2.out.later hb3).alloc (.cells #[.string V1, .string V2] 56))
            have M3 := hideB2 (Blk.new w3 #[.string V1, .string V2] 56)
            have HB3 := hideB2 (below_then (below_then HB2.out hb3) (below_a1 w3 (.cells #[.string V1, .string V2] 56)))
            have hN3 := N3.out.lt
            clear hb3
            obtain ⟨m0, m1⟩ := M3.out.c2
            have hNE := hideB2 (show u5.ownBlock ≠ some w2.heap.size by
              intro hh
              have := (HO.out.own.lt w2.heap.size hh).2
              omega)
            have hll := hideB2 (show l.length ≤ 1048576 by have := HS.out; have := HL.out; have := HK.out; omega)
            have hltw := HA.out.lt
            go_wp2_with (at_builtin; refine wp_wapp rfl (.tmp 37) (.tmp 39) rfl _ l rfl O3.out V1 V2 (w3.heap.size + 1) (by simp) rfl hll.out ?_; intro v4 W4 hO4 hb4 hk4; have N4 := hk4 _ _ _ hNE.out N3.out; obtain ⟨q0, q1⟩ := N4.c2; have A4 := hideB2 (A3.out.kept hb4 (by omega)); have R4 := hideB2 (R3.out.kept hb4 (by omega)); have f0 := A4.out.free 0; have f1 := A4.out.free 1; obtain ⟨p0, p1⟩ := A4.out.c2)
            have HO4 := hideB2 hO4
            have HB4 := hideB2 (HB3.out.trans (hb4.mono (by omega)))
            clear hO4 hb4 hk4 N4 q0 q1 m0 m1 p0 p1 f0 f1
            have hee : ((E + 2 : Nat) : Int) = (E : Int) + 2 := by omega
            go_roundw
            case rel =>
              refine ⟨E + 2, l ++ [(V1, V2)], hE, ?_, ?_, ?_, ?_, ?_, ?_⟩
              · have := HL.out; rw [List.length_append]; simp; omega
              · exact (HO4.out.set (g := w.heap.size) (by omega) 0 _).set (g := w.heap.size) (by omega) 1 _
              · rw [hee]; exact A4.out.set2 _ _
              · exact R4.out.oth2 (by omega) _ _
              · exact (HB4.out.setCell (p := ⟨w.heap.size, 0, none⟩) (Nat.le_refl _) _).setCell (p := ⟨w.heap.size, 1, none⟩) (Nat.le_refl _) _
              · exact hF.out
            case measure =>
              have hA5 := A4.out.set2 (.string s) (.int .i64 ((E : Int) + 2))
              rw [← hee] at hA5
              rw [← hee, curAt_blk hA5, HM.out]
              omega
    · obtain ⟨c, hc, hv⟩ := tlV_not h1
      rw [hv] at HTL
      unfold curZ at HTL
      have hF := hideB2 (show X = none by rw [hx.out, lsF_bad hk (by unfold lkQ; rw [decide_eq_false h1]; rfl)]; rfl)
      clear hv h1 hx
      go_wp2_with fail
      refine (HTL.out _).mono ?_
      rintro e w2 ⟨rfl, hb2⟩
      have R2 := hideB2 ((HR.out.later hb2).alloc (.cells #[.string ⟨#[]⟩, .int .i64 0] 25))
      have HB2 := hideB2 (below_then (below_then HBW.out hb2) (below_a1 w2 (.cells #[.string ⟨#[]⟩, .int .i64 0] 25)))
      clear hb2 p0 p1
      have f0 := R2.out.free 0
      have f1 := R2.out.free 1
      obtain ⟨r0, r1⟩ := R2.out.c2
      go_wp2
      refine bodyPost_ret (results_tCt rfl _ _ _ rfl (R2.out.set2 _ _) Tryd.underlying25 Tryd.infoCur8) rfl ⟨?_, ?_⟩
      · exact .inl ⟨hF.out, rfl⟩
      exact (HB2.out.setCell (p := ⟨w.heap.size + 1, 0, none⟩) (Nat.le_succ _) _).setCell (p := ⟨w.heap.size + 1, 1, none⟩) (Nat.le_succ _) _
end Go.Proofs.YtffjpidjhcnnmabDoor
