/-
  Chapter 8: a looser reader's lines; the program's side. · Chapter 8: the one line of a name, the length that is told; the program's side. · The walks over chapter 1: TakeN. · Chapter 8: a looser reader's record, how many there are; the program's side. · The walks over chapter 1: impl.TakeN. · Chapter 8: a looser reader's record, how many there are; the program's side. · Chapter 8: how many records there are; the program's side. · Rows of ints of the call's own. · The walks over chapter 2: spec.CivilOk.
-/
import Derived.Test.YtffjpidjhcnnmabDoorJ3
import Derived.Test.YtffjpidjhcnnmabDoorJ2
import Derived.Deep.RegionWith
import Derived.Test.YtffjpidjhcnnmabDoorJ0
import Derived.OwnWalk
import Derived.Laws.OwnMore
namespace Go.Proofs.YtffjpidjhcnnmabDoor
set_option linter.unusedVariables false
set_option linter.unusedSimpArgs false
open Go.RowKit
theorem Tryd.infoCur8 : (Tryd.prog.info? 25).map (·.size) = some 2 := by kernel_rfl
theorem results_tCt {fn : Func} {p u t' : Tmp} {ty : TypeId} (h : fn.results = #[.tmp u, .cell p ty, .tmp t']) (tmps : Array Value) (P : Program) (w : World) {b : Nat} {c : Array Value} {t : TypeId} {fs : Array Field} (hp : tmps.getD p undef = .pointer (some ⟨b, 0, none⟩)) (hB : Blk w b c t)
    (hu : P.underlying ty = some (.struct fs)) (hi : (P.info? ty).map (·.size) = some c.size) : (results fn tmps).run P w = .ok (.tuple #[tmps.getD u undef, .agg c, tmps.getD t' undef]) w := by
  have hrun := run_loadVar_row (P := P) w b t ty c (0, 0) _ hB hu rfl hi
  have ha : (asAddr (tmps[p]?.getD undef)).run P w = .ok ⟨b, 0, none⟩ w := by rw [← Array.getD_eq_getD_getElem?, hp]; rfl
  simp [results, h, Sem.run_bind, Result.andThen, ha, hrun]
theorem results_CCt {fn : Func} {p p2 t' : Tmp} {ty ty2 : TypeId} (h : fn.results = #[.cell p ty, .cell p2 ty2, .tmp t']) (tmps : Array Value) (P : Program) (w : World) {b b2 : Nat} {c c2 : Array Value} {t t2 : TypeId} {fs fs2 : Array Field} (hp : tmps.getD p undef = .pointer (some ⟨b, 0, none⟩)) (hB : Blk w b c t)
    (hp2 : tmps.getD p2 undef = .pointer (some ⟨b2, 0, none⟩)) (hB2 : Blk w b2 c2 t2)
    (hu : P.underlying ty = some (.struct fs)) (hi : (P.info? ty).map (·.size) = some c.size) (hu2 : P.underlying ty2 = some (.struct fs2)) (hi2 : (P.info? ty2).map (·.size) = some c2.size) : (results fn tmps).run P w = .ok (.tuple #[.agg c, .agg c2, tmps.getD t' undef]) w := by
  have hrun := run_loadVar_row (P := P) w b t ty c (0, 0) _ hB hu rfl hi
  have ha : (asAddr (tmps[p]?.getD undef)).run P w = .ok ⟨b, 0, none⟩ w := by rw [← Array.getD_eq_getD_getElem?, hp]; rfl
  have hrun2 := run_loadVar_row (P := P) w b2 t2 ty2 c2 (0, 0) _ hB2 hu2 rfl hi2
  have ha2 : (asAddr (tmps[p2]?.getD undef)).run P w = .ok ⟨b2, 0, none⟩ w := by rw [← Array.getD_eq_getD_getElem?, hp2]; rfl
  simp [results, h, Sem.run_bind, Result.andThen, ha, hrun, ha2, hrun2]
/-- The number in a cursor's block. -/
def curAt (w : World) (g : Nat) : Nat := ((w.cell? ⟨g, 1, none⟩).map fun v => (intOf v).toNat).getD 0
theorem curAt_blk {w : World} {g k : Nat} {s : ByteArray} {t : TypeId} (h : Blk w g #[.string s, .int .i64 (k : Int)] t) : curAt w g = k := by
  unfold curAt
  rw [h.cell 1]
  show (intOf (.int .i64 (k : Int))).toNat = k
  simp [intOf]
set_option maxRecDepth 100000 in
set_option maxHeartbeats 8000000 in
theorem takeLooseLines_any (s : ByteArray) (k0 : Nat) (w : World) (hs : s.size ≤ 1048576) (hk0 : k0 ≤ s.size) :
    Calls Tryd.prog 19 #[.agg #[.string s, .int .i64 (k0 : Int)]] w fun e w' => ((lsF s k0 = none ∧ e = .returned (.tuple #[.slice none 0 0, .agg #[.string ⟨#[]⟩, .int .i64 0], .bool false])) ∨ (∃ l k' v, lsF s k0 = some (l, k') ∧ e = .returned (.tuple #[v, .agg #[.string s, .int .i64 ((k' : Nat) : Int)], .bool true]) ∧ SlW w' v l ∧ ∀ g, v.ownBlock = some g → w.heap.size ≤ g)) ∧ Below w.heap.size w w' := by
  have hsm : s.size ≤ maxLen := by unfold maxLen; omega
  have HS := hideB2 hs
  have HSM := hideB2 hsm
  have HK0 := hideB2 hk0
  generalize hX : lsF s k0 = X
  have HX := hideB2 hX
  have HB := hideB2 (below_a2 w (.cells #[.string s, .int .i64 (k0 : Int)] 25) (.cells #[.string ⟨#[]⟩, .int .i64 0] 25))
  have A0 := hideB2 ((Blk.new w #[.string s, .int .i64 (k0 : Int)] 25).alloc (.cells #[.string ⟨#[]⟩, .int .i64 0] 25))
  have R0 := hideB2 (Blk.new (w.alloc (.cells #[.string s, .int .i64 (k0 : Int)] 25)) #[.string ⟨#[]⟩, .int .i64 0] 25)
  clear hX hs hsm hk0
  go_enter Tryd.func19, Tryd.ntmps19
  go_wp2
  have hsz1 : (w.alloc (.cells #[.string s, .int .i64 (k0 : Int)] 25)).heap.size = w.heap.size + 1 := by simp
  rw [hsz1] at R0
  have hsz2 : ((w.alloc (.cells #[.string s, .int .i64 (k0 : Int)] 25)).alloc (.cells #[.string ⟨#[]⟩, .int .i64 0] 25)).heap.size = w.heap.size + 2 := by simp
  generalize hW : (w.alloc (.cells #[.string s, .int .i64 (k0 : Int)] 25)).alloc (.cells #[.string ⟨#[]⟩, .int .i64 0] 25) = W1 at *
  clear hsz1 hW
  have HZ := hideB2 hsz2
  clear hsz2
  go_loopw [5] (fun ov wr => ∃ (k : Nat) (l : List Fd), k ≤ s.size ∧ l.length ≤ k ∧ OwW (w.heap.size + 2) wr ov l ∧ Blk wr w.heap.size #[.string s, .int .i64 (k : Int)] 25 ∧ Blk wr (w.heap.size + 1) #[.string ⟨#[]⟩, .int .i64 0] 25 ∧ Below w.heap.size w wr ∧ Hid (X = (lsF s k).map fun p => (l ++ p.1, p.2))) (fun _ wr => s.size + 1 - curAt wr w.heap.size)
  case atStart =>
    refine ⟨k0, [], HK0.out, Nat.zero_le _, OwW.start (by rw [HZ.out]; exact Nat.le_refl _), A0.out, R0.out, HB.out, ?_⟩
    show X = _
    rw [HX.out]
    cases X with
    | none => rfl
    | some p => obtain ⟨a, b⟩ := p; rfl
  case round =>
    obtain ⟨k, l, hk, hl, how, hA, hR, hbw, hx⟩ := hrel
    clear A0 R0 HB HX HZ
    have HL := hideB2 hl
    have HTL := hideB2 (fun W => TakeLine_ok s k W HSM.out hk)
    have hm := curAt_blk hA
    have HM := hideB2 hm
    have HK := hideB2 hk
    have HBW := hideB2 hbw
    have HA := hideB2 hA
    have HR := hideB2 hR
    have HO := hideB2 how
    obtain ⟨p0, p1⟩ := hA.c2
    clear hm hl hbw hA hR how
    by_cases h1 : tlC s k = 0
    · have hE := tlE_ok hk h1
      have hz := lineAt_size hk
      have hn := lenE_nil hk
      rw [tlV_ok h1] at HTL
      change Hid (∀ W, Calls _ _ _ W fun e w' => e = .returned (.tuple #[.string (lineAt s k), .agg #[.string s, .int .i64 ((tlE s k : Int) + 2)], .int .i64 0]) ∧ Below W.heap.size W w') at HTL
      have HWP := hideB2 HO.out.le
      by_cases h2 : (300 : Int) < ((lineAt s k).size : Int)
      · have hF := hideB2 (show X = none by rw [hx.out, lsF_bad hk (by unfold lkQ; rw [decide_eq_false (show ¬ tlE s k - k ≤ 300 by omega)]; simp)]; rfl)
        clear hx hz hn h1
        generalize lineAt s k = L at *
        generalize tlE s k = E at *
        go_wp2_with fail
        refine (HTL.out _).mono ?_
        rintro e w2 ⟨rfl, hb2⟩
        have R2 := hideB2 ((HR.out.later hb2).alloc (.cells #[.string s, .int .i64 ((E : Int) + 2)] 25))
        have HB2 := hideB2 (below_then (below_then HBW.out hb2) (below_a1 w2 (.cells #[.string s, .int .i64 ((E : Int) + 2)] 25)))
        clear hb2 p0 p1
        have f0 := R2.out.free 0
        have f1 := R2.out.free 1
        obtain ⟨r0, r1⟩ := R2.out.c2
        go_wp2
        refine bodyPost_ret (results_tCt rfl _ _ _ rfl (R2.out.set2 _ _) Tryd.underlying25 Tryd.infoCur8) rfl ⟨?_, ?_⟩
        · exact .inl ⟨hF.out, rfl⟩
        exact (HB2.out.setCell (p := ⟨w.heap.size + 1, 0, none⟩) (Nat.le_succ _) _).setCell (p := ⟨w.heap.size + 1, 1, none⟩) (Nat.le_succ _) _
      · have hq : lkQ s k = true := lkQ_iff.2 ⟨h1, by omega⟩
        have d2 : decide ((300 : Int) < ((lineAt s k).size : Int)) = false := decide_eq_false h2
        by_cases he : tlE s k = k
        · have hF := hideB2 (show X = some (l, k + 2) by rw [hx.out, lsF_end hk hq he]; simp)
          rw [decide_eq_true he] at hn
          rw [he] at HTL hE
          clear hx hz h1 he h2 hq
          generalize lineAt s k = L at *
          go_wp2_with fail
          refine (HTL.out _).mono ?_
          rintro e w2 ⟨rfl, hb2⟩
          have hlt1 := HR.out.lt
          have hle2 := hb2.size
          have R2 := hideB2 ((HR.out.later hb2).alloc (.cells #[.string s, .int .i64 ((k : Int) + 2)] 25))
          have N2 := hideB2 (Blk.new w2 #[.string s, .int .i64 ((k : Int) + 2)] 25)
          have O2 := hideB2 ((HO.out.later hb2).alloc (.cells #[.string s, .int .i64 ((k : Int) + 2)] 25))
          have HB2 := hideB2 (below_then (below_then HBW.out hb2) (below_a1 w2 (.cells #[.string s, .int .i64 ((k : Int) + 2)] 25)))
          clear hb2 p0 p1
          have f0 := R2.out.free 0
          have f1 := R2.out.free 1
          obtain ⟨r0, r1⟩ := R2.out.c2
          obtain ⟨q0, q1⟩ := N2.out.c2
          go_wp2
          go_region
          go_wp2
          refine bodyPost_ret (results_tCt rfl _ _ _ rfl (R2.out.drew.set2 _ _) Tryd.underlying25 Tryd.infoCur8) rfl ⟨?_, ?_⟩
          · refine .inr ⟨l, k + 2, _, hF.out, rfl, ?_, ?_⟩
            · exact ((O2.out.drew.set (g := w.heap.size + 1) (by omega) 0 _).set (g := w.heap.size + 1) (by omega) 1 _).sl
            · intro g hg
              have := (O2.out.own.lt g hg).1
              omega
          exact (HB2.out.drew.setCell (p := ⟨w.heap.size + 1, 0, none⟩) (Nat.le_succ _) _).setCell (p := ⟨w.heap.size + 1, 1, none⟩) (Nat.le_succ _) _
        · have hLz : (lineAt s k).size ≤ 1048576 := by have := HS.out; have := (lkQ_iff.1 hq).2; omega
          have HRL := hideB2 (fun W => readLooseLine_any (lineAt s k) W hLz)
          have hN := hideB2 (fun (h : llnO (lineAt s k) = false) => show X = none by rw [hx.out, lsF_no hk hq he h]; rfl)
          have hY := hideB2 (fun (h : llnO (lineAt s k) = true) => show X = (lsF s (tlE s k + 2)).map fun p => ((l ++ [llnV (lineAt s k)]) ++ p.1, p.2) by
            rw [hx.out, lsF_next hk hq he h, Option.map_map]
            congr 1
            funext p
            simp)
          have hgt := tlE_ge s k
          rw [decide_eq_false he] at hn
          clear hx hz h1 he h2 hq hLz
          generalize llnO (lineAt s k) = ok at *
          generalize llnV (lineAt s k) = V at *
          obtain ⟨V1, V2⟩ := V
          generalize lineAt s k = L at *
          generalize tlE s k = E at *
          cases ok
          · have hF := hideB2 (hN.out rfl)
            clear hN hY
            go_wp2_with fail
            refine (HTL.out _).mono ?_
            rintro e w2 ⟨rfl, hb2⟩
            have R2 := hideB2 ((HR.out.later hb2).alloc (.cells #[.string s, .int .i64 ((E : Int) + 2)] 25))
            have HB2 := hideB2 (below_then (below_then HBW.out hb2) (below_a1 w2 (.cells #[.string s, .int .i64 ((E : Int) + 2)] 25)))
            clear hb2 p0 p1
            go_wp2_with fail
            refine (HRL.out _).mono ?_
            rintro e w3 ⟨rfl, hb3⟩
            have R3 := hideB2 ((R2.out.later hb3).alloc (.cells #[.string V1, .string V2] 56))
            have HB3 := hideB2 (below_then (below_then HB2.out hb3) (below_a1 w3 (.cells #[.string V1, .string V2] 56)))
            clear hb3
            have f0 := R3.out.free 0
            have f1 := R3.out.free 1
            obtain ⟨r0, r1⟩ := R3.out.c2
            go_wp2
            refine bodyPost_ret (results_tCt rfl _ _ _ rfl (R3.out.set2 _ _) Tryd.underlying25 Tryd.infoCur8) rfl ⟨?_, ?_⟩
            · exact .inl ⟨hF.out, rfl⟩
            exact (HB3.out.setCell (p := ⟨w.heap.size + 1, 0, none⟩) (Nat.le_succ _) _).setCell (p := ⟨w.heap.size + 1, 1, none⟩) (Nat.le_succ _) _
          · have hF := hideB2 (hY.out rfl)
            clear hN hY
            go_wp2_with fail
            refine (HTL.out _).mono ?_
            rintro e w2 ⟨rfl, hb2⟩
            have A2 := hideB2 ((HA.out.later hb2).alloc (.cells #[.string s, .int .i64 ((E : Int) + 2)] 25))
            have R2 := hideB2 ((HR.out.later hb2).alloc (.cells #[.string s, .int .i64 ((E : Int) + 2)] 25))
            have N2 := hideB2 (Blk.new w2 #[.string s, .int .i64 ((E : Int) + 2)] 25)
            have O2 := hideB2 ((HO.out.later hb2).alloc (.cells #[.string s, .int .i64 ((E : Int) + 2)] 25))
            have HB2 := hideB2 (below_then (below_then HBW.out hb2) (below_a1 w2 (.cells #[.string s, .int .i64 ((E : Int) + 2)] 25)))
            have hle2 := hb2.size
            clear hb2 p0 p1
            go_wp2_with fail
            refine (HRL.out _).mono ?_
            rintro e w3 ⟨rfl, hb3⟩
            have A3 := hideB2 ((A2.out.later hb3).alloc (.cells #[.string V1, .string V2] 56))
            have R3 := hideB2 ((R2.out.later hb3).alloc (.cells #[.string V1, .string V2] 56))
            have N3 := hideB2 ((N2.out.later hb3).alloc (.cells #[.string V1, .string V2] 56))
            have O3 := hideB2 ((O2.out.later hb3).alloc (.cells #[.string V1, .string V2] 56))
            have M3 := hideB2 (Blk.new w3 #[.string V1, .string V2] 56)
            have HB3 := hideB2 (below_then (below_then HB2.out hb3) (below_a1 w3 (.cells #[.string V1, .string V2] 56)))
            have hN3 := N3.out.lt
            clear hb3
            obtain ⟨m0, m1⟩ := M3.out.c2
            have hNE := hideB2 (show u5.ownBlock ≠ some w2.heap.size by
              intro hh
              have := (HO.out.own.lt w2.heap.size hh).2
              omega)
            have hll := hideB2 (show l.length ≤ 1048576 by have := HS.out; have := HL.out; have := HK.out; omega)
            have hltw := HA.out.lt
            go_wp2_with (at_builtin; refine wp_wapp rfl (.tmp 37) (.tmp 39) rfl _ l rfl O3.out V1 V2 (w3.heap.size + 1) (by simp) rfl hll.out ?_; intro v4 W4 hO4 hb4 hk4; have N4 := hk4 _ _ _ hNE.out N3.out; obtain ⟨q0, q1⟩ := N4.c2; have A4 := hideB2 (A3.out.kept hb4 (by omega)); have R4 := hideB2 (R3.out.kept hb4 (by omega)); have f0 := A4.out.free 0; have f1 := A4.out.free 1; obtain ⟨p0, p1⟩ := A4.out.c2)
            have HO4 := hideB2 hO4
            have HB4 := hideB2 (HB3.out.trans (hb4.mono (by omega)))
            clear hO4 hb4 hk4 N4 q0 q1 m0 m1 p0 p1 f0 f1
            have hee : ((E + 2 : Nat) : Int) = (E : Int) + 2 := by omega
            go_roundw
            case rel =>
              refine ⟨E + 2, l ++ [(V1, V2)], hE, ?_, ?_, ?_, ?_, ?_, ?_⟩
              · have := HL.out; rw [List.length_append]; simp; omega
              · exact (HO4.out.set (g := w.heap.size) (by omega) 0 _).set (g := w.heap.size) (by omega) 1 _
              · rw [hee]; exact A4.out.set2 _ _
              · exact R4.out.oth2 (by omega) _ _
              · exact (HB4.out.setCell (p := ⟨w.heap.size, 0, none⟩) (Nat.le_refl _) _).setCell (p := ⟨w.heap.size, 1, none⟩) (Nat.le_refl _) _
              · exact hF.out
            case measure =>
              have hA5 := A4.out.set2 (.string s) (.int .i64 ((E : Int) + 2))
              rw [← hee] at hA5
              rw [← hee, curAt_blk hA5, HM.out]
              omega
    · obtain ⟨c, hc, hv⟩ := tlV_not h1
      rw [hv] at HTL
      unfold curZ at HTL
      have hF := hideB2 (show X = none by rw [hx.out, lsF_bad hk (by unfold lkQ; rw [decide_eq_false h1]; rfl)]; rfl)
      clear hv h1 hx
      go_wp2_with fail
      refine (HTL.out _).mono ?_
      rintro e w2 ⟨rfl, hb2⟩
      have R2 := hideB2 ((HR.out.later hb2).alloc (.cells #[.string ⟨#[]⟩, .int .i64 0] 25))
      have HB2 := hideB2 (below_then (below_then HBW.out hb2) (below_a1 w2 (.cells #[.string ⟨#[]⟩, .int .i64 0] 25)))
      clear hb2 p0 p1
      have f0 := R2.out.free 0
      have f1 := R2.out.free 1
      obtain ⟨r0, r1⟩ := R2.out.c2
      go_wp2
      refine bodyPost_ret (results_tCt rfl _ _ _ rfl (R2.out.set2 _ _) Tryd.underlying25 Tryd.infoCur8) rfl ⟨?_, ?_⟩
      · exact .inl ⟨hF.out, rfl⟩
      exact (HB2.out.setCell (p := ⟨w.heap.size + 1, 0, none⟩) (Nat.le_succ _) _).setCell (p := ⟨w.heap.size + 1, 1, none⟩) (Nat.le_succ _) _
end Go.Proofs.YtffjpidjhcnnmabDoor
namespace Go.Proofs.YtffjpidjhcnnmabDoor
set_option linter.unusedVariables false
set_option linter.unusedSimpArgs false
open Go.RowKit
theorem SlW.row {w : World} {a : Option Addr} {c : Nat} {l : List Fd} (h : SlW w (.slice a l.length c) l) (hl : 0 < l.length) : ∃ b, a = some ⟨b, 0, none⟩ ∧ RowW w b l := by
  rcases h with ⟨_, h2⟩ | ⟨b, c', h1, h2⟩
  · rw [h2] at hl; simp at hl
  · injection h1 with h1
    exact ⟨b, h1, h2⟩
theorem SlW.set {w : World} {v : Value} {l : List Fd} (h : SlW w v l) {g : Nat} (hne : v.ownBlock ≠ some g) (k : Nat) (x : Value) : SlW (w.setCell ⟨g, k, none⟩ x) v l := by
  rcases h with h | ⟨b, c, h1, h2⟩
  · exact .inl h
  · refine .inr ⟨b, c, h1, h2.oth ?_ k x⟩
    rintro rfl
    apply hne
    rw [h1]; rfl
theorem hitL_next (l : List Fd) (k : Nat) (n : ByteArray) (h : k < l.length) : hitL (l.take (k + 1)) n = if eqB (fdAt l k).1 n = true then hitL (l.take k) n ++ [fdAt l k] else hitL (l.take k) n := by
  rw [List.take_succ_eq_append_getElem h, ← fdAt_get h, hitL_snoc]
theorem lastV_hit {l : List Fd} {k : Nat} {n : ByteArray} (h : k < l.length) (hq : eqB (fdAt l k).1 n = true) : lastV (l.take (k + 1)) n = (fdAt l k).2 ∧ cntL (l.take (k + 1)) n = cntL (l.take k) n + 1 := by
  unfold lastV cntL
  rw [hitL_next l k n h, if_pos hq]
  simp
theorem lastV_miss {l : List Fd} {k : Nat} {n : ByteArray} (h : k < l.length) (hq : eqB (fdAt l k).1 n = false) : lastV (l.take (k + 1)) n = lastV (l.take k) n ∧ cntL (l.take (k + 1)) n = cntL (l.take k) n := by
  unfold lastV cntL
  rw [hitL_next l k n h, if_neg (by rw [hq]; decide)]
  exact ⟨rfl, rfl⟩
theorem cntL_le (l : List Fd) (n : ByteArray) : cntL l n ≤ l.length := List.length_filter_le _ _
theorem onlyV_cnt (l : List Fd) (n : ByteArray) : onlyV l n = if cntL l n = 1 then lastV l n else ⟨#[]⟩ := onlyV_last l n
set_option maxRecDepth 100000 in
set_option maxHeartbeats 4000000 in
theorem only_any (v : Value) (l : List Fd) (b n : ByteArray) (w : World) (hv : SlW w v l) (hl : l.length ≤ 1048576) (hz : ∀ x ∈ l, x.1.size ≤ 300 ∧ x.2.size ≤ 300) (hn : n.size ≤ maxLen) :
    Calls Tryd.prog 39 #[.agg #[v, .string b], .string n] w fun e w' => e = .returned (.string (onlyV l (foldB n))) ∧ Below w.heap.size w w' := by
  obtain ⟨a, c0, rfl⟩ := hv.form
  have HF := hideB2 (fun W => Fold_any n W hn)
  have HO := hideB2 (onlyV_cnt l (foldB n))
  generalize onlyV l (foldB n) = O at *
  generalize foldB n = fn at *
  have HV := hideB2 hv
  have HZ := hideB2 hz
  have HB0 := hideB2 (below_a1 w (.cells #[.slice a l.length c0, .string b] 31))
  have A0 := hideB2 (Blk.new w #[.slice a l.length c0, .string b] 31)
  have HL := hideB2 hl
  clear hv hz hn hl
  generalize hm : l.length = m at *
  have HM := hideB2 hm
  clear hm
  go_enter Tryd.func39, Tryd.ntmps39
  go_wp2_with fail
  refine (HF.out _).mono ?_
  rintro e w1 ⟨rfl, hb1⟩
  have HB1 := hideB2 (below_then HB0.out hb1)
  obtain ⟨p0, p1⟩ := (A0.out.later hb1).c2
  clear hb1 A0 HB0 HF
  go_wp2
  clear p0 p1
  go_loopw [5, 6, 15] (fun vo ct i wr => ∃ k : Nat, k ≤ m ∧ i = .int .i64 k ∧ vo = .string (lastV (l.take k) fn) ∧ ct = .int .i64 (cntL (l.take k) fn : Nat) ∧ Below w.heap.size w wr) (fun _ _ i _ => m - (intOf i).toNat)
  case atStart => exact ⟨0, Nat.zero_le _, rfl, rfl, rfl, HB1.out⟩
  case round =>
    obtain ⟨k, hk, rfl, rfl, rfl, hbw⟩ := hrel
    by_cases hlt : k < m
    · have hklt : k < l.length := by rw [HM.out]; exact hlt
      rw [← HM.out] at HV
      obtain ⟨g, rfl, hr⟩ := HV.out.row (by omega)
      rw [HM.out] at HV
      have p0 := (hr.later hbw hr.lt).dat k hklt
      have p1 := (hr.later hbw hr.lt).saf k hklt
      have hcl := cntL_le (l.take k) fn
      rw [List.length_take] at hcl
      have HLL := HL.out
      have e1 : IntKind.i64.wrap (((cntL (l.take k) fn : Nat) : Int) + 1) = ((cntL (l.take k) fn : Nat) : Int) + 1 := by rw [IntKind.wrap_i64]; omega
      have e2 : IntKind.i64.wrap ((k : Int) + 1) = (k : Int) + 1 := by rw [IntKind.wrap_i64]; omega
      have hH := hideB2 (fun h => lastV_hit (l := l) (n := fn) hklt h)
      have hI := hideB2 (fun h => lastV_miss (l := l) (n := fn) hklt h)
      have HBW := hideB2 hbw
      clear hr hklt hcl HLL hbw
      generalize lastV (l.take k) fn = LV at *
      generalize cntL (l.take k) fn = C at *
      generalize hx : fdAt l k = x at *
      clear hx
      obtain ⟨d, t⟩ := x
      simp only at p0 p1 hH hI
      have A1 := hideB2 (Blk.new wr #[.string d, .string t] 56)
      have HB2 := hideB2 (below_then HBW.out (below_a1 wr (.cells #[.string d, .string t] 56)))
      cases hc : eqB d fn
      · obtain ⟨q1, q2⟩ := hI.out hc
        have Q1 := hideB2 q1
        have Q2 := hideB2 q2
        unfold eqB at hc
        clear hH hI q1 q2
        go_wp2
        go_roundw
        case rel => exact ⟨k + 1, by omega, by go_num, by rw [Q1.out], by rw [Q2.out], HB2.out⟩
        case measure => simp [intOf]; omega
      · obtain ⟨q1, q2⟩ := hH.out hc
        have Q1 := hideB2 q1
        have Q2 := hideB2 q2
        unfold eqB at hc
        clear hH hI q1 q2
        go_wp2
        go_roundw
        case rel => exact ⟨k + 1, by omega, by go_num, by rw [Q1.out], by rw [Q2.out]; rfl, HB2.out⟩
        case measure => simp [intOf]; omega
    · obtain rfl : k = m := by omega
      rw [show l.take k = l from List.take_of_length_le (by rw [HM.out]; exact Nat.le_refl _)] at *
      have HBW := hideB2 hbw
      clear hbw HB1
      by_cases h1 : cntL l fn = 1
      · have HE := hideB2 (show O = lastV l fn by rw [HO.out, if_pos h1])
        rw [h1]
        generalize lastV l fn = LV at *
        clear HO h1 hk hlt
        go_wp2
        go_ret
        exact ⟨ret_str HE.out, HBW.out⟩
      · have HE := hideB2 (show O = ⟨#[]⟩ by rw [HO.out, if_neg h1])
        have hb : (((cntL l fn : Nat) : Int) != 1) = true := by rw [bne_iff_ne]; omega
        generalize lastV l fn = LV at *
        generalize cntL l fn = C at *
        clear HO h1 hk hlt
        go_wp2
        go_ret
        exact ⟨ret_str HE.out, HBW.out⟩
theorem brQ_no1 {s : ByteArray} (h : ¬ 3 ≤ s.size) : brQ s = false := by unfold brQ; rw [decide_eq_false h]; rfl
theorem brQ_no2 {s : ByteArray} (h : ¬ (at8 s 0).toNat = 60) : brQ s = false := by unfold brQ; rw [decide_eq_false h]; simp
theorem brQ_last {s : ByteArray} (h : 3 ≤ s.size) (h2 : (at8 s 0).toNat = 60) : brQ s = decide ((at8 s (s.size - 1)).toNat = 62) := by unfold brQ; rw [decide_eq_true h, decide_eq_true h2]; rfl
set_option maxRecDepth 100000 in
set_option maxHeartbeats 2000000 in
theorem bracketed_any (s : ByteArray) (w : World) (hs : s.size ≤ 1048576) :
    Calls Tryd.prog 42 #[.string s] w fun e w' => e = .returned (.bool (brQ s)) ∧ w' = w := by
  by_cases h3 : 3 ≤ s.size
  · have c1 : (3 : Int) ≤ (s.size : Int) := by omega
    have hat0 : s[0] = at8 s 0 := at8_eq s 0 (by omega)
    by_cases h60 : (at8 s 0).toNat = 60
    · rw [brQ_last h3 h60]
      have hb0 : ((at8 s 0).toNat : Int) = 60 := by omega
      have e1 : IntKind.i64.wrap ((s.size : Int) - 1) = ((s.size - 1 : Nat) : Int) := by rw [IntKind.wrap_i64]; omega
      have hat1 : s[s.size - 1] = at8 s (s.size - 1) := at8_eq s (s.size - 1) (by omega)
      have c0 : (0 : Int) < (s.size : Int) := by omega
      have c2 : ((s.size - 1 : Nat) : Int) < (s.size : Int) := by omega
      have c3 : s.size - 1 < s.size := by omega
      by_cases h62 : (at8 s (s.size - 1)).toNat = 62
      · have hb1 : ((at8 s (s.size - 1)).toNat : Int) = 62 := by omega
        rw [decide_eq_true h62]
        go_enter Tryd.func42, Tryd.ntmps42
        go_wp2
        go_ret
        exact ⟨rfl, rfl⟩
      · have hb1 : ¬ ((at8 s (s.size - 1)).toNat : Int) = 62 := by omega
        rw [decide_eq_false h62]
        go_enter Tryd.func42, Tryd.ntmps42
        go_wp2
        go_ret
        exact ⟨ret_bool (by rw [eq_comm, beq_eq_false_iff_ne]; exact hb1), rfl⟩
    · rw [brQ_no2 h60]
      have hb0 : ¬ ((at8 s 0).toNat : Int) = 60 := by omega
      have c0 : (0 : Int) < (s.size : Int) := by omega
      go_enter Tryd.func42, Tryd.ntmps42
      go_wp2
      go_ret
      exact ⟨rfl, rfl⟩
  · rw [brQ_no1 h3]
    have c1 : ¬ (3 : Int) ≤ (s.size : Int) := by omega
    go_enter Tryd.func42, Tryd.ntmps42
    go_wp2
    go_ret
    exact ⟨rfl, rfl⟩
end Go.Proofs.YtffjpidjhcnnmabDoor
namespace Go.Proofs.YtffjpidjhcnnmabDoor
set_option linter.unusedVariables false
set_option linter.unusedSimpArgs false
open Go.RowKit

/-- What TakeN answers. -/
def tnOk (s : ByteArray) (n m : Int) : Bool := curOk s n && decide (0 ≤ m) && decide (m ≤ (s.size : Int) - n)
def tnV (s : ByteArray) (n m : Int) : Value := if tnOk s n m = true then .tuple #[.string (s.extract n.toNat (n.toNat + m.toNat)), .agg #[.string s, .int .i64 (n + m)], .bool true] else .tuple #[.string ⟨#[]⟩, curZ, .bool false]
theorem tnV_no {s : ByteArray} {n m : Int} (h : tnOk s n m = false) : tnV s n m = .tuple #[.string ⟨#[]⟩, curZ, .bool false] := by simp [tnV, h]
theorem tnV_yes {s : ByteArray} {k m : Nat} (h : k + m ≤ s.size) : tnV s (k : Int) (m : Int) = .tuple #[.string (s.extract k (k + m)), .agg #[.string s, .int .i64 ((k : Int) + m)], .bool true] := by
  have : tnOk s (k : Int) (m : Int) = true := by
    unfold tnOk
    simp [curOk]
    omega
  unfold tnV
  rw [if_pos this, Int.toNat_natCast, Int.toNat_natCast]

set_option maxHeartbeats 1000000 in
theorem sTakeN_any (s : ByteArray) (n m : Int) (w : World) (hs : s.size ≤ maxLen) (hm : m ≤ 9223372036854775807) :
    Calls Tryd.prog 17 #[.agg #[.string s, .int .i64 n], .int .i64 m] w fun e w' => e = .returned (tnV s n m) ∧ Below w.heap.size w w' := by
  have hs' := hs
  unfold maxLen at hs'
  cases hc : curOk s n
  · rw [tnV_no (by simp [tnOk, hc])]
    go_enter Tryd.func17, Tryd.ntmps17
    go_wp2_with (go_at_call 22; refine (sCurOk_any s n _).mono ?_; rintro e w' ⟨rfl, rfl⟩)
    refine bodyPost_ret (v := .tuple #[.string ⟨#[]⟩, curZ, .bool false]) (by simp [results, Tryd.results17, go_sem, curZ]) rfl ⟨rfl, ?_⟩
    exact (by repeat (first | exact Below.refl _ _ | refine Below.drew ?_ | refine Below.alloc ?_ (by simp <;> omega) _ | refine Below.setCell ?_ (by simp <;> omega) _))
  · obtain ⟨h0, h1⟩ := curOk_iff.1 hc
    obtain ⟨k, rfl⟩ := Int.eq_ofNat_of_zero_le h0
    have hk : k ≤ s.size := by omega
    by_cases hm0 : m < 0
    · rw [tnV_no (by simp [tnOk]; omega)]
      go_enter Tryd.func17, Tryd.ntmps17
      go_wp2_with (go_at_call 22; refine (sCurOk_any s k _).mono ?_; rintro e w' ⟨rfl, rfl⟩)
      refine bodyPost_ret (v := .tuple #[.string ⟨#[]⟩, curZ, .bool false]) (by simp [results, Tryd.results17, go_sem, curZ]) rfl ⟨rfl, ?_⟩
      exact (by repeat (first | exact Below.refl _ _ | refine Below.drew ?_ | refine Below.alloc ?_ (by simp <;> omega) _ | refine Below.setCell ?_ (by simp <;> omega) _))
    · obtain ⟨j, rfl⟩ := Int.eq_ofNat_of_zero_le (show 0 ≤ m by omega)
      by_cases hbig : (s.size : Int) - (k : Int) < (j : Int)
      · rw [tnV_no (by simp [tnOk]; omega)]
        go_enter Tryd.func17, Tryd.ntmps17
        go_wp2_with (go_at_call 22; refine (sCurOk_any s k _).mono ?_; rintro e w' ⟨rfl, rfl⟩)
        refine bodyPost_ret (v := .tuple #[.string ⟨#[]⟩, curZ, .bool false]) (by simp [results, Tryd.results17, go_sem, curZ]) rfl ⟨rfl, ?_⟩
        exact (by repeat (first | exact Below.refl _ _ | refine Below.drew ?_ | refine Below.alloc ?_ (by simp <;> omega) _ | refine Below.setCell ?_ (by simp <;> omega) _))
      · rw [tnV_yes (by omega)]
        have e1 : IntKind.i64.wrap ((k : Int) + (j : Int)) = (k : Int) + (j : Int) := by rw [IntKind.wrap_i64]; omega
        have hkj : k ≤ k + j := by omega
        have hkj2 : k + j ≤ s.size := by omega
        go_enter Tryd.func17, Tryd.ntmps17
        go_wp2_with (go_at_call 22; refine (sCurOk_any s k _).mono ?_; rintro e w' ⟨rfl, rfl⟩)
        go_region
        go_wp2
        refine bodyPost_ret (v := .tuple #[.string (s.extract k (k + j)), .agg #[.string s, .int .i64 ((k : Int) + j)], .bool true]) (by simp [results, Tryd.results17, go_sem]) rfl ⟨rfl, ?_⟩
        exact (by repeat (first | exact Below.refl _ _ | refine Below.drew ?_ | refine Below.alloc ?_ (by simp <;> omega) _ | refine Below.setCell ?_ (by simp <;> omega) _))
end Go.Proofs.YtffjpidjhcnnmabDoor
namespace Go.Proofs.YtffjpidjhcnnmabDoor
set_option linter.unusedVariables false
set_option linter.unusedSimpArgs false
open Go.RowKit
theorem Tryd.infoLr : (Tryd.prog.info? 31).map (·.size) = some 2 := by kernel_rfl
theorem ReadWarcDate_all (a : ByteArray) (w : World) (hM : MonTab w) :
    Calls Tryd.prog 38 #[.string a] w fun e w' => e = .returned (.tuple #[.int .i64 (wqN a), .bool (wqO a)]) ∧ Below w.heap.size w w' := by
  obtain ⟨t, b, h1, h2⟩ := ReadWarcDate_ex a
  obtain ⟨rfl, rfl⟩ := wq_same h1
  exact h2 w hM
theorem foldB_da : foldB ⟨#[87, 65, 82, 67, 45, 68, 97, 116, 101]⟩ = daF := by kernel_rfl
theorem foldB_ty : foldB ⟨#[87, 65, 82, 67, 45, 84, 121, 112, 101]⟩ = tyF := by kernel_rfl
theorem foldB_id : foldB ⟨#[87, 65, 82, 67, 45, 82, 101, 99, 111, 114, 100, 45, 73, 68]⟩ = idF := by kernel_rfl
theorem foldB_len : foldB ⟨#[99, 111, 110, 116, 101, 110, 116, 45, 108, 101, 110, 103, 116, 104]⟩ = lenF := by kernel_rfl
theorem rdecN_le (s : ByteArray) : rdecN s ≤ 999999999999999 := by
  unfold rdecN
  cases h : rdec s with
  | none => show ((0 : Nat) : Int) ≤ _; omega
  | some u =>
    show ((u : Nat) : Int) ≤ _
    unfold rdec at h
    split at h
    · rename_i hh
      obtain rfl := Option.some.inj h
      have h1 := valL_lt _ hh.2.2.1
      have h2 : s.data.toList.length ≤ 15 := by rw [len_data]; exact hh.2.1
      have h3 : (10 : Nat) ^ s.data.toList.length ≤ 10 ^ 15 := Nat.pow_le_pow_right (by omega) h2
      have h4 : (10 : Nat) ^ 15 = 1000000000000000 := by decide
      omega
    · cases h
set_option maxRecDepth 100000 in
set_option maxHeartbeats 4000000 in
theorem size_any (v : Value) (l : List Fd) (b : ByteArray) (w : World) (hv : SlW w v l) (hl : l.length ≤ 1048576) (hz : ∀ x ∈ l, x.1.size ≤ 300 ∧ x.2.size ≤ 300) (hM : MonTab w) :
    Calls Tryd.prog 20 #[.agg #[v, .string b]] w fun e w' => e = .returned (.tuple #[.int .i64 (sizeN l), .bool (sizeO l)]) ∧ Below w.heap.size w w' := by
  have h1 : ∀ s : ByteArray, s.size ≤ 300 → s.size ≤ maxLen := fun s h => by unfold maxLen; omega
  have HD := hideB2 (fun W (h : SlW W v l) => only_any v l b ⟨#[87, 65, 82, 67, 45, 68, 97, 116, 101]⟩ W h hl hz (h1 _ (of_decide_eq_true (by kernel_rfl))))
  have HT := hideB2 (fun W (h : SlW W v l) => only_any v l b ⟨#[87, 65, 82, 67, 45, 84, 121, 112, 101]⟩ W h hl hz (h1 _ (of_decide_eq_true (by kernel_rfl))))
  have HI := hideB2 (fun W (h : SlW W v l) => only_any v l b ⟨#[87, 65, 82, 67, 45, 82, 101, 99, 111, 114, 100, 45, 73, 68]⟩ W h hl hz (h1 _ (of_decide_eq_true (by kernel_rfl))))
  have HL := hideB2 (fun W (h : SlW W v l) => only_any v l b ⟨#[99, 111, 110, 116, 101, 110, 116, 45, 108, 101, 110, 103, 116, 104]⟩ W h hl hz (h1 _ (of_decide_eq_true (by kernel_rfl))))
  rw [foldB_da] at HD
  rw [foldB_ty] at HT
  rw [foldB_id] at HI
  rw [foldB_len] at HL
  have z1 := onlyV_le hz daF
  have z2 := onlyV_le hz tyF
  have z3 := onlyV_le hz idF
  have z4 := onlyV_le hz lenF
  have HWD := hideB2 (fun W (h : MonTab W) => ReadWarcDate_all (onlyV l daF) W h)
  have HRD := hideB2 (fun W => ReadDec_any (onlyV l lenF) W (h1 _ z4))
  have HTK := hideB2 (fun W => Token_any (onlyV l tyF) W (h1 _ z2))
  have HBR := hideB2 (fun W => bracketed_any (onlyV l idF) W (by omega))
  unfold sizeN sizeO
  have HV := hideB2 hv
  have HMT := hideB2 hM
  have HB0 := hideB2 (below_a1 w (.cells #[v, .string b] 31))
  have A0 := hideB2 (Blk.new w #[v, .string b] 31)
  obtain ⟨a, c0, hvf⟩ := hv.form
  clear hv hl hz hM h1 z1 z2 z3 z4
  subst hvf
  generalize hD : onlyV l daF = D at *
  generalize hTy : onlyV l tyF = T at *
  generalize hId : onlyV l idF = I at *
  generalize hLn : onlyV l lenF = N at *
  generalize l.length = m at *
  clear hD hTy hId hLn
  generalize rdecN N = n at *
  generalize rdecOk N = nk at *
  generalize wqN D = dn at *
  generalize wqO D = dk at *
  generalize tokB T = tk at *
  generalize brQ I = bk at *
  cases dk <;> cases nk <;> cases tk
  all_goals
    go_enter Tryd.func20, Tryd.ntmps20
    go_wp2_with fail
    refine (HD.out _ (HV.out.keep HB0.out)).mono ?_
    rintro e w1 ⟨rfl, hb1⟩
    have HB1 := hideB2 (below_then HB0.out hb1)
    have A1 := hideB2 (A0.out.later hb1)
    clear hb1
    go_wp2_with fail
    refine (HWD.out _ (HMT.out.below HB1.out)).mono ?_
    rintro e w2 ⟨rfl, hb2⟩
    have HB2 := hideB2 (below_then HB1.out hb2)
    have A2 := hideB2 (A1.out.later hb2)
    obtain ⟨p0, p1⟩ := A2.out.c2
    clear hb2
    go_wp2_with fail
    refine (HL.out _ (HV.out.keep HB2.out)).mono ?_
    rintro e w3 ⟨rfl, hb3⟩
    have HB3 := hideB2 (below_then HB2.out hb3)
    have A3 := hideB2 (A2.out.later hb3)
    clear hb3 p0 p1
    obtain ⟨p0, p1⟩ := A3.out.c2
    go_wp2_with (first | (go_at_call 40; refine (HRD.out _).mono ?_; rintro e w' ⟨rfl, rfl⟩) | fail)
    first
      | (refine (HT.out _ (HV.out.keep HB3.out)).mono ?_
         rintro e w4 ⟨rfl, hb4⟩
         have HB4 := hideB2 (below_then HB3.out hb4)
         have A4 := hideB2 (A3.out.later hb4)
         clear hb4 p0 p1
         obtain ⟨p0, p1⟩ := A4.out.c2
         go_wp2_with (first | (go_at_call 41; refine (HTK.out _).mono ?_; rintro e w' ⟨rfl, rfl⟩) | fail)
         first
           | (refine (HI.out _ (HV.out.keep HB4.out)).mono ?_
              rintro e w5 ⟨rfl, hb5⟩
              have HB5 := hideB2 (below_then HB4.out hb5)
              clear hb5
              go_wp2_with (go_at_call 42; refine (HBR.out _).mono ?_; rintro e w' ⟨rfl, rfl⟩)
              go_ret2
              exact ⟨rfl, HB5.out⟩)
           | (go_ret2
              exact ⟨rfl, HB4.out⟩))
      | (go_ret2
         exact ⟨rfl, HB3.out⟩)
end Go.Proofs.YtffjpidjhcnnmabDoor
namespace Go.Proofs.YtffjpidjhcnnmabDoor
set_option linter.unusedVariables false
set_option linter.unusedSimpArgs false
open Go.RowKit

set_option maxHeartbeats 1000000 in
theorem TakeN_any (s : ByteArray) (n m : Int) (w : World) (hs : s.size ≤ maxLen) (hm : m ≤ 9223372036854775807) :
    Calls Tryd.prog 21 #[.agg #[.string s, .int .i64 n], .int .i64 m] w fun e w' => e = .returned (tnV s n m) ∧ Below w.heap.size w w' := by
  have hs' := hs
  unfold maxLen at hs'
  cases hc : curOk s n
  · rw [tnV_no (by simp [tnOk, hc])]
    go_enter Tryd.func21, Tryd.ntmps21
    go_wp2_with (go_at_call 32; refine (inside_any s _ _).mono ?_; rintro e w' ⟨rfl, rfl⟩)
    refine bodyPost_ret (v := .tuple #[.string ⟨#[]⟩, curZ, .bool false]) (by simp [results, Tryd.results21, go_sem, curZ]) rfl ⟨rfl, ?_⟩
    exact (by repeat (first | exact Below.refl _ _ | refine Below.drew ?_ | refine Below.alloc ?_ (by simp <;> omega) _ | refine Below.setCell ?_ (by simp <;> omega) _))
  · obtain ⟨h0, h1⟩ := curOk_iff.1 hc
    obtain ⟨k, rfl⟩ := Int.eq_ofNat_of_zero_le h0
    have hk : k ≤ s.size := by omega
    by_cases hm0 : m < 0
    · rw [tnV_no (by simp [tnOk]; omega)]
      go_enter Tryd.func21, Tryd.ntmps21
      go_wp2_with (first | (go_at_call 32; refine (inside_any s _ _).mono ?_; rintro e w' ⟨rfl, rfl⟩) | (go_at_call 7; refine (left_any s k _ hs hk).mono ?_; rintro e w' ⟨rfl, rfl⟩))
      refine bodyPost_ret (v := .tuple #[.string ⟨#[]⟩, curZ, .bool false]) (by simp [results, Tryd.results21, go_sem, curZ]) rfl ⟨rfl, ?_⟩
      exact (by repeat (first | exact Below.refl _ _ | refine Below.drew ?_ | refine Below.alloc ?_ (by simp <;> omega) _ | refine Below.setCell ?_ (by simp <;> omega) _))
    · obtain ⟨j, rfl⟩ := Int.eq_ofNat_of_zero_le (show 0 ≤ m by omega)
      by_cases hbig : (s.size : Int) - (k : Int) < (j : Int)
      · rw [tnV_no (by simp [tnOk]; omega)]
        go_enter Tryd.func21, Tryd.ntmps21
        go_wp2_with (first | (go_at_call 32; refine (inside_any s _ _).mono ?_; rintro e w' ⟨rfl, rfl⟩) | (go_at_call 7; refine (left_any s k _ hs hk).mono ?_; rintro e w' ⟨rfl, rfl⟩))
        refine bodyPost_ret (v := .tuple #[.string ⟨#[]⟩, curZ, .bool false]) (by simp [results, Tryd.results21, go_sem, curZ]) rfl ⟨rfl, ?_⟩
        exact (by repeat (first | exact Below.refl _ _ | refine Below.drew ?_ | refine Below.alloc ?_ (by simp <;> omega) _ | refine Below.setCell ?_ (by simp <;> omega) _))
      · rw [tnV_yes (by omega)]
        have hkj2 : k + j ≤ s.size := by omega
        go_enter Tryd.func21, Tryd.ntmps21
        go_wp2_with (first | (go_at_call 32; refine (inside_any s _ _).mono ?_; rintro e w' ⟨rfl, rfl⟩) | (go_at_call 7; refine (left_any s k _ hs hk).mono ?_; rintro e w' ⟨rfl, rfl⟩))
        go_region_with (first | (go_at_call 36; refine (part_any s k j _ hs hkj2).mono ?_; rintro e w' ⟨rfl, rfl⟩) | (go_at_call 34; refine (behind_any s k j _ hs hkj2).mono ?_; rintro e w2 ⟨rfl, hb2⟩; obtain ⟨hcc, hff⟩ := bcell hb2; have hzz := hb2.size))
        all_goals go_wp2
        all_goals
          refine bodyPost_ret (v := .tuple #[.string (s.extract k (k + j)), .agg #[.string s, .int .i64 ((k : Int) + j)], .bool true]) (by simp [results, Tryd.results21, go_sem, hcc]) rfl ⟨rfl, ?_⟩
        all_goals exact (by repeat (first | exact Below.refl _ _ | refine Below.drew ?_ | refine Below.alloc ?_ (by simp <;> omega) _ | refine Below.setCell ?_ (by simp <;> omega) _ | refine Below.trans ?_ (Below.mono hb2 (by simp <;> omega))))
end Go.Proofs.YtffjpidjhcnnmabDoor
namespace Go.Proofs.YtffjpidjhcnnmabDoor
set_option linter.unusedVariables false
set_option linter.unusedSimpArgs false
open Go.RowKit
theorem ver_eq (L : ByteArray) : (L.toList == [87, 65, 82, 67, 47, 49, 46, 49]) = eqB L verB := by
  unfold eqB
  rw [ByteArray.toList_eq verB]
  rfl
theorem end_eq (L : ByteArray) : (L.toList == [13, 10, 13, 10]) = eqB L crlf2B := by
  unfold eqB
  rw [ByteArray.toList_eq crlf2B]
  rfl
theorem grF_bad {s : ByteArray} {k : Nat} (h : grV s k = false) : grF s k = none := by unfold grF; rw [if_neg (by rw [h]; decide)]
theorem grF_lines {s : ByteArray} {k : Nat} (h : grV s k = true) (h2 : lsF s (tlE s k + 2) = none) : grF s k = none := by unfold grF; rw [if_pos h, h2]; rfl
theorem grF_fin {s : ByteArray} {k : Nat} {l : List Fd} {e : Nat} (h : grV s k = true) (h2 : lsF s (tlE s k + 2) = some (l, e)) : grF s k = (finR s l e).map fun q => (l, q.1, q.2) := by unfold grF; rw [if_pos h, h2]; rfl
theorem finR_no1 {s : ByteArray} {l : List Fd} {e : Nat} (h : sizeO l = false) : finR s l e = none := by unfold finR; rw [if_neg (by rw [h]; simp)]
theorem finR_no2 {s : ByteArray} {l : List Fd} {e : Nat} (h : ¬ (e : Int) + sizeN l + 4 ≤ (s.size : Int)) : finR s l e = none := by unfold finR; rw [if_neg (fun hh => h hh.2.1)]
theorem finR_no3 {s : ByteArray} {l : List Fd} {e : Nat} (h : eqB (s.extract (e + (sizeN l).toNat) (e + (sizeN l).toNat + 4)) crlf2B = false) : finR s l e = none := by unfold finR; rw [if_neg (fun hh => by rw [h] at hh; exact absurd hh.2.2 (by decide))]
theorem finR_yes {s : ByteArray} {l : List Fd} {e : Nat} (h1 : sizeO l = true) (h2 : (e : Int) + sizeN l + 4 ≤ (s.size : Int)) (h3 : eqB (s.extract (e + (sizeN l).toNat) (e + (sizeN l).toNat + 4)) crlf2B = true) : finR s l e = some (s.extract e (e + (sizeN l).toNat), e + (sizeN l).toNat + 4) := by unfold finR; rw [if_pos ⟨h1, h2, h3⟩]
theorem ext_ext (s : ByteArray) (e n m : Nat) (h : e + n + m ≤ s.size) : (s.extract e (e + (n + m))).extract n (n + m) = s.extract (e + n) (e + n + m) ∧ (s.extract e (e + (n + m))).extract 0 n = s.extract e (e + n) ∧ (s.extract e (e + (n + m))).size = n + m := by
  refine ⟨?_, ?_, ?_⟩
  · apply bytes_ext
    rw [extract_list, extract_list, extract_list]
    apply List.ext_getElem?
    intro i
    simp only [List.getElem?_drop, List.getElem?_take]
    by_cases hi : i < m
    · rw [if_pos (by omega), if_pos (by omega), if_pos (by omega)]
      congr 1; omega
    · rw [if_neg (by omega), if_neg (by omega)]
  · apply bytes_ext
    rw [extract_list, extract_list, extract_list]
    apply List.ext_getElem?
    intro i
    simp only [List.getElem?_drop, List.getElem?_take]
    by_cases hi : i < n
    · rw [if_pos (by omega), if_pos (by omega), if_pos (by omega)]
      congr 1; omega
    · rw [if_neg (by omega), if_neg (by omega)]
  · rw [ByteArray.size_extract]; omega
set_option maxRecDepth 100000 in
set_option maxHeartbeats 8000000 in
theorem takeLoose_any (s : ByteArray) (k : Nat) (w : World) (hs : s.size ≤ 1048576) (hk : k ≤ s.size) (hM : MonTab w) :
    Calls Tryd.prog 8 #[.agg #[.string s, .int .i64 (k : Int)]] w fun e w' => ((grF s k = none ∧ e = .returned (.tuple #[.agg #[.slice none 0 0, .string ⟨#[]⟩], .agg #[.string ⟨#[]⟩, .int .i64 0], .bool false])) ∨ (∃ l b k' v, grF s k = some (l, b, k') ∧ e = .returned (.tuple #[.agg #[v, .string b], .agg #[.string s, .int .i64 ((k' : Nat) : Int)], .bool true]) ∧ SlW w' v l ∧ ∀ g, v.ownBlock = some g → w.heap.size ≤ g)) ∧ Below w.heap.size w w' := by
  have hsm : s.size ≤ maxLen := by unfold maxLen; omega
  generalize hX : grF s k = X
  have HX := hideB2 hX
  have HMT := hideB2 hM
  have HS := hideB2 hs
  have HTL := hideB2 (fun W => TakeLine_ok s k W hsm hk)
  have HB0 := hideB2 (below_a3 w (.cells #[.string s, .int .i64 (k : Int)] 25) (.cells #[.slice none 0 0, .string ⟨#[]⟩] 31) (.cells #[.string ⟨#[]⟩, .int .i64 0] 25))
  have A0 := hideB2 (blk_a w #[.string s, .int .i64 (k : Int)] 25 (.cells #[.slice none 0 0, .string ⟨#[]⟩] 31) (.cells #[.string ⟨#[]⟩, .int .i64 0] 25))
  have L0 := hideB2 (blk_b w #[.slice none 0 0, .string ⟨#[]⟩] 31 (.cells #[.string s, .int .i64 (k : Int)] 25) (.cells #[.string ⟨#[]⟩, .int .i64 0] 25))
  have R0 := hideB2 (blk_c w #[.string ⟨#[]⟩, .int .i64 0] 25 (.cells #[.string s, .int .i64 (k : Int)] 25) (.cells #[.slice none 0 0, .string ⟨#[]⟩] 31))
  clear hX hs hM
  by_cases h1 : tlC s k = 0
  · have hE := tlE_ok hk h1
    have hz := lineAt_size hk
    rw [tlV_ok h1] at HTL
    change Hid (∀ W, Calls _ _ _ W fun e w' => e = .returned (.tuple #[.string (lineAt s k), .agg #[.string s, .int .i64 ((tlE s k : Int) + 2)], .int .i64 0]) ∧ Below W.heap.size W w') at HTL
    have hv := ver_eq (lineAt s k)
    have hgv : grV s k = eqB (lineAt s k) verB := by unfold grV; rw [decide_eq_true h1, Bool.true_and]
    have hLz : Hid ((lineAt s k).size ≤ 1048576) := by show (lineAt s k).size ≤ 1048576; have := HS.out; omega
    rw [← hgv] at hv
    cases hq : grV s k
    · have hF := hideB2 (show X = none from HX.out.symm.trans (grF_bad hq))
      rw [hq] at hv
      clear hgv hz hq h1
      generalize lineAt s k = L at *
      generalize tlE s k = E at *
      go_enter Tryd.func8, Tryd.ntmps8
      go_wp2_with fail
      refine (HTL.out _).mono ?_
      rintro e w1 ⟨rfl, hb1⟩
      have A1 := hideB2 (A0.out.later hb1)
      have L1 := hideB2 (L0.out.later hb1)
      have R1 := hideB2 (R0.out.later hb1)
      have HB1 := hideB2 (below_then HB0.out hb1)
      clear hb1
      have a0 := A1.out.free 0
      have a1 := A1.out.free 1
      obtain ⟨p0, p1⟩ := A1.out.c2
      have A2 := hideB2 (A1.out.set2 (.string s) (.int .i64 ((E : Int) + 2)))
      have L2 := hideB2 (L1.out.oth2 (g := w.heap.size) (by omega) (.string s) (.int .i64 ((E : Int) + 2)))
      have R2 := hideB2 (R1.out.oth2 (g := w.heap.size) (by omega) (.string s) (.int .i64 ((E : Int) + 2)))
      have HB2 := hideB2 ((HB1.out.setCell (p := ⟨w.heap.size, 0, none⟩) (Nat.le_refl _) (.string s)).setCell (p := ⟨w.heap.size, 1, none⟩) (Nat.le_refl _) (.int .i64 ((E : Int) + 2)))
      have f0 := L1.out.free 0
      have f1 := L1.out.free 1
      obtain ⟨l0, l1⟩ := L1.out.c2
      have g0 := R1.out.free 0
      have g1 := R1.out.free 1
      obtain ⟨r0, r1⟩ := R1.out.c2
      go_wp2
      refine bodyPost_ret (results_CCt rfl _ _ _ rfl ((L2.out.set2 _ _).oth2 (by omega) _ _) rfl ((R2.out.oth2 (by omega) _ _).set2 _ _) Tryd.underlying31 Tryd.infoLr Tryd.underlying25 Tryd.infoCur8) rfl ⟨.inl ⟨hF.out, rfl⟩, ?_⟩
      exact (((HB2.out.setCell (p := ⟨w.heap.size + 1, 0, none⟩) (by show w.heap.size ≤ w.heap.size + 1; omega) _).setCell (p := ⟨w.heap.size + 1, 1, none⟩) (by show w.heap.size ≤ w.heap.size + 1; omega) _).setCell (p := ⟨w.heap.size + 2, 0, none⟩) (by show w.heap.size ≤ w.heap.size + 2; omega) _).setCell (p := ⟨w.heap.size + 2, 1, none⟩) (by show w.heap.size ≤ w.heap.size + 2; omega) _
    · have hE2 : ((tlE s k + 2 : Nat) : Int) = (tlE s k : Int) + 2 := by omega
      have HLS := hideB2 (fun W => takeLooseLines_any s (tlE s k + 2) W HS.out hE)
      rw [hE2] at HLS
      have hG1 := hideB2 (fun h => HX.out.symm.trans (grF_lines (s := s) (k := k) hq h))
      have hG2 := hideB2 (fun l e h => HX.out.symm.trans (grF_fin (s := s) (k := k) (l := l) (e := e) hq h))
      have hLe := hideB2 (fun l e h => lsF_le (s := s) (k := tlE s k + 2) (l := l) (e := e) hE h)
      rw [hq] at hv
      clear hgv hz hq h1 hE2
      generalize hLF : lsF s (tlE s k + 2) = LF at *
      clear hLF hE
      generalize lineAt s k = L at *
      generalize tlE s k = E at *
      go_enter Tryd.func8, Tryd.ntmps8
      go_wp2_with fail
      refine (HTL.out _).mono ?_
      rintro e w1 ⟨rfl, hb1⟩
      have A1 := hideB2 (A0.out.later hb1)
      have L1 := hideB2 (L0.out.later hb1)
      have R1 := hideB2 (R0.out.later hb1)
      have HB1 := hideB2 (below_then HB0.out hb1)
      clear hb1
      have a0 := A1.out.free 0
      have a1 := A1.out.free 1
      obtain ⟨p0, p1⟩ := A1.out.c2
      have A2 := hideB2 (A1.out.set2 (.string s) (.int .i64 ((E : Int) + 2)))
      have L2 := hideB2 (L1.out.oth2 (g := w.heap.size) (by omega) (.string s) (.int .i64 ((E : Int) + 2)))
      have R2 := hideB2 (R1.out.oth2 (g := w.heap.size) (by omega) (.string s) (.int .i64 ((E : Int) + 2)))
      have HB2 := hideB2 ((HB1.out.setCell (p := ⟨w.heap.size, 0, none⟩) (Nat.le_refl _) (.string s)).setCell (p := ⟨w.heap.size, 1, none⟩) (Nat.le_refl _) (.int .i64 ((E : Int) + 2)))
      go_wp2_with fail
      clear p0 p1 a0 a1
      refine (HLS.out _).mono ?_
      rintro e w3 ⟨hres, hb3⟩
      have A3 := hideB2 (A2.out.later hb3)
      have L3 := hideB2 (L2.out.later hb3)
      have R3 := hideB2 (R2.out.later hb3)
      have HB3 := hideB2 (below_then HB2.out hb3)
      clear hb3
      rcases hres with ⟨rfl, rfl⟩ | ⟨l, e2, v, rfl, rfl, hsl, hown⟩
      · have hF := hideB2 (hG1.out rfl)
        have a0 := A3.out.free 0
        have a1 := A3.out.free 1
        obtain ⟨p0, p1⟩ := A3.out.c2
        have A4 := hideB2 (A3.out.set2 (.string ⟨#[]⟩) (.int .i64 0))
        have L4 := hideB2 (L3.out.oth2 (g := w.heap.size) (by omega) (.string ⟨#[]⟩) (.int .i64 0))
        have R4 := hideB2 (R3.out.oth2 (g := w.heap.size) (by omega) (.string ⟨#[]⟩) (.int .i64 0))
        have HB4 := hideB2 ((HB3.out.setCell (p := ⟨w.heap.size, 0, none⟩) (Nat.le_refl _) (.string ⟨#[]⟩)).setCell (p := ⟨w.heap.size, 1, none⟩) (Nat.le_refl _) (.int .i64 0))
        have f0 := L3.out.free 0
        have f1 := L3.out.free 1
        obtain ⟨l0, l1⟩ := L3.out.c2
        have g0 := R3.out.free 0
        have g1 := R3.out.free 1
        obtain ⟨r0, r1⟩ := R3.out.c2
        go_wp2
        refine bodyPost_ret (results_CCt rfl _ _ _ rfl ((L4.out.set2 _ _).oth2 (by omega) _ _) rfl ((R4.out.oth2 (by omega) _ _).set2 _ _) Tryd.underlying31 Tryd.infoLr Tryd.underlying25 Tryd.infoCur8) rfl ⟨.inl ⟨hF.out, rfl⟩, ?_⟩
        exact (((HB4.out.setCell (p := ⟨w.heap.size + 1, 0, none⟩) (by show w.heap.size ≤ w.heap.size + 1; omega) _).setCell (p := ⟨w.heap.size + 1, 1, none⟩) (by show w.heap.size ≤ w.heap.size + 1; omega) _).setCell (p := ⟨w.heap.size + 2, 0, none⟩) (by show w.heap.size ≤ w.heap.size + 2; omega) _).setCell (p := ⟨w.heap.size + 2, 1, none⟩) (by show w.heap.size ≤ w.heap.size + 2; omega) _
      · have hG := hideB2 (hG2.out l e2 rfl)
        obtain ⟨hle1, hle2, hle3⟩ := hLe.out l e2 rfl
        have HSL := hideB2 hsl
        clear hG1 hG2 hLe hsl
        have hll : l.length ≤ 1048576 := by have := HS.out; omega
        have HSZ := hideB2 (fun W (h : SlW W v l) (h2 : MonTab W) => size_any v l ⟨#[]⟩ W h hll hle3 h2)
        have HLE1 := hideB2 hle1
        have hw1 := HB1.out.size
        have hnev := hideB2 (show v.ownBlock ≠ some w.heap.size by
          intro hh
          have h9 := hown _ hh
          have h8 : ((w1.setCell ⟨w.heap.size, 0, none⟩ (.string s)).setCell ⟨w.heap.size, 1, none⟩ (.int .i64 ((E : Int) + 2))).heap.size = w1.heap.size := by simp [World.setCell]
          have h7 := R1.out.lt
          omega)
        have hne9 := hideB2 (fun g (hh : v.ownBlock = some g) => show w.heap.size + 2 < g by
          have h9 := hown _ hh
          have h8 : ((w1.setCell ⟨w.heap.size, 0, none⟩ (.string s)).setCell ⟨w.heap.size, 1, none⟩ (.int .i64 ((E : Int) + 2))).heap.size = w1.heap.size := by simp [World.setCell]
          have h7 := R1.out.lt
          omega)
        have hltv := hideB2 (show v.ownBlock ≠ some w3.heap.size by
          intro hh
          rcases HSL.out with ⟨h9, _⟩ | ⟨b, c, h9, h8⟩
          · rw [h9] at hh; cases hh
          · rw [h9] at hh
            have h7 := h8.lt
            have h6 : b = w3.heap.size := by injection hh
            omega)
        clear hle3 hll hle2 hown
        obtain ⟨va, vc, hvf⟩ := HSL.out.form
        generalize l.length = m at hvf
        subst hvf
        have a0 := A3.out.free 0
        have a1 := A3.out.free 1
        obtain ⟨p0, p1⟩ := A3.out.c2
        have A4 := hideB2 (A3.out.set2 (.string s) (.int .i64 ((e2 : Nat) : Int)))
        have L4 := hideB2 (L3.out.oth2 (g := w.heap.size) (by omega) (.string s) (.int .i64 ((e2 : Nat) : Int)))
        have R4 := hideB2 (R3.out.oth2 (g := w.heap.size) (by omega) (.string s) (.int .i64 ((e2 : Nat) : Int)))
        have HB4 := hideB2 ((HB3.out.setCell (p := ⟨w.heap.size, 0, none⟩) (Nat.le_refl _) (.string s)).setCell (p := ⟨w.heap.size, 1, none⟩) (Nat.le_refl _) (.int .i64 ((e2 : Nat) : Int)))
        have hsz4 : ((w3.setCell ⟨w.heap.size, 0, none⟩ (.string s)).setCell ⟨w.heap.size, 1, none⟩ (.int .i64 ((e2 : Nat) : Int))).heap.size = w3.heap.size := by simp [World.setCell]
        have V4 := hideB2 ((HSL.out.set hnev.out 0 (.string s)).set hnev.out 1 (.int .i64 ((e2 : Nat) : Int)))
        have N5 := hideB2 (Blk.new ((w3.setCell ⟨w.heap.size, 0, none⟩ (.string s)).setCell ⟨w.heap.size, 1, none⟩ (.int .i64 ((e2 : Nat) : Int))) #[.slice va m vc, .string ⟨#[]⟩] 31)
        rw [hsz4] at N5
        have hb5 := hideB2 (below_a1 ((w3.setCell ⟨w.heap.size, 0, none⟩ (.string s)).setCell ⟨w.heap.size, 1, none⟩ (.int .i64 ((e2 : Nat) : Int))) (.cells #[.slice va m vc, .string ⟨#[]⟩] 31))
        have A5 := hideB2 (A4.out.later hb5.out)
        have L5 := hideB2 (L4.out.later hb5.out)
        have R5 := hideB2 (R4.out.later hb5.out)
        have V5 := hideB2 (V4.out.keep hb5.out)
        have HB5 := hideB2 (below_then HB4.out hb5.out)
        clear hb5 hsz4
        have hR3 := R3.out.lt
        go_wp2_with fail
        clear p0 p1 a0 a1
        refine (HSZ.out _ V5.out (HMT.out.below HB5.out)).mono ?_
        rintro e w6 ⟨rfl, hb6⟩
        have N6 := hideB2 (N5.out.later hb6)
        have V6 := hideB2 (V5.out.keep hb6)
        have A6 := hideB2 (A5.out.later hb6)
        have L6 := hideB2 (L5.out.later hb6)
        have R6 := hideB2 (R5.out.later hb6)
        have HB6 := hideB2 (below_then HB5.out hb6)
        clear hb6
        have hbn := rdecN_le (onlyV l lenF)
        have hbn0 := sizeN_nonneg l
        change sizeN l ≤ 999999999999999 at hbn
        have hN1 := hideB2 (fun h => hG.out.trans (by rw [finR_no1 (s := s) (l := l) (e := e2) h]))
        have hN2 := hideB2 (fun h => hG.out.trans (by rw [finR_no2 (s := s) (l := l) (e := e2) h]))
        have hN3 := hideB2 (fun h => hG.out.trans (by rw [finR_no3 (s := s) (l := l) (e := e2) h]))
        have hN4 := hideB2 (fun h h' h'' => hG.out.trans (by rw [finR_yes (s := s) (l := l) (e := e2) h h' h'']))
        clear hG HSZ
        generalize sizeN l = n at *
        generalize sizeO l = ok at *
        cases ok
        · have hF := hideB2 (show X = none from hN1.out rfl)
          clear hN1 hN2 hN3 hN4
          have f0 := L6.out.free 0
          have f1 := L6.out.free 1
          obtain ⟨l0, l1⟩ := L6.out.c2
          have g0 := R6.out.free 0
          have g1 := R6.out.free 1
          obtain ⟨r0, r1⟩ := R6.out.c2
          go_wp2
          refine bodyPost_ret (results_CCt rfl _ _ _ rfl ((L6.out.set2 _ _).oth2 (by omega) _ _) rfl ((R6.out.oth2 (by omega) _ _).set2 _ _) Tryd.underlying31 Tryd.infoLr Tryd.underlying25 Tryd.infoCur8) rfl ⟨.inl ⟨hF.out, rfl⟩, ?_⟩
          exact (((HB6.out.setCell (p := ⟨w.heap.size + 1, 0, none⟩) (by show w.heap.size ≤ w.heap.size + 1; omega) _).setCell (p := ⟨w.heap.size + 1, 1, none⟩) (by show w.heap.size ≤ w.heap.size + 1; omega) _).setCell (p := ⟨w.heap.size + 2, 0, none⟩) (by show w.heap.size ≤ w.heap.size + 2; omega) _).setCell (p := ⟨w.heap.size + 2, 1, none⟩) (by show w.heap.size ≤ w.heap.size + 2; omega) _
        · obtain ⟨nn, rfl⟩ := Int.eq_ofNat_of_zero_le hbn0
          have e4 : IntKind.i64.wrap ((nn : Int) + 4) = (nn : Int) + 4 := by rw [IntKind.wrap_i64]; omega
          have HTN := hideB2 (fun W => TakeN_any s (e2 : Int) ((nn : Int) + 4) W hsm (by omega))
          by_cases hfit : (e2 : Int) + (nn : Int) + 4 ≤ (s.size : Int)
          · have hx1 := ext_ext s e2 nn 4 (by omega)
            obtain ⟨x1, x2, x3⟩ := hx1
            rw [show ((nn : Int) + 4) = ((nn + 4 : Nat) : Int) by omega, tnV_yes (s := s) (k := e2) (m := nn + 4) (by omega)] at HTN
            rw [show ((nn + 4 : Nat) : Int) = (nn : Int) + 4 by omega] at HTN
            have hend := end_eq (s.extract (e2 + nn) (e2 + nn + 4))
            have hN3' := hideB2 (fun h => hN3.out (by rw [Int.toNat_natCast]; exact h))
            have hN4' := hideB2 (fun h => hN4.out rfl hfit (by rw [Int.toNat_natCast]; exact h))
            rw [Int.toNat_natCast] at hN4'
            have c1 : (0 : Int) ≤ (nn : Int) := by omega
            have c2 : (nn : Int) ≤ (((s.extract e2 (e2 + (nn + 4))).size : Nat) : Int) := by rw [x3]; omega
            have c3 : nn ≤ nn + 4 := by omega
            clear hN1 hN2 hN3 hN4 hbn hbn0
            generalize hD : s.extract e2 (e2 + (nn + 4)) = D at *
            generalize hBk : s.extract e2 (e2 + nn) = Bk at *
            generalize hEn : s.extract (e2 + nn) (e2 + nn + 4) = En at *
            clear hD hBk hEn
            have x1' : D.extract nn D.size = En := by rw [x3]; exact x1
            clear x3
            obtain ⟨q0, q1⟩ := A6.out.c2
            go_wp2_with fail
            refine (HTN.out _).mono ?_
            rintro e w7 ⟨rfl, hb7⟩
            have N7 := hideB2 (N6.out.later hb7)
            have V7 := hideB2 (V6.out.keep hb7)
            clear q0 q1
            have A7 := hideB2 (A6.out.later hb7)
            have L7 := hideB2 (L6.out.later hb7)
            have R7 := hideB2 (R6.out.later hb7)
            have HB7 := hideB2 (below_then HB6.out hb7)
            clear hb7
            have a0 := A7.out.free 0
            have a1 := A7.out.free 1
            obtain ⟨p0, p1⟩ := A7.out.c2
            have A8 := hideB2 (A7.out.set2 (.string s) (.int .i64 ((e2 : Int) + ((nn : Int) + 4))))
            have L8 := hideB2 (L7.out.oth2 (g := w.heap.size) (by omega) (.string s) (.int .i64 ((e2 : Int) + ((nn : Int) + 4))))
            have R8 := hideB2 (R7.out.oth2 (g := w.heap.size) (by omega) (.string s) (.int .i64 ((e2 : Int) + ((nn : Int) + 4))))
            have HB8 := hideB2 ((HB7.out.setCell (p := ⟨w.heap.size, 0, none⟩) (Nat.le_refl _) (.string s)).setCell (p := ⟨w.heap.size, 1, none⟩) (Nat.le_refl _) (.int .i64 ((e2 : Int) + ((nn : Int) + 4))))
            have hN7 := N7.out.lt
            have hR7 := R7.out.lt
            cases hq2 : eqB En crlf2B
            · have hF := hideB2 (show X = none from hN3'.out hq2)
              rw [hq2] at hend
              clear hN3' hN4' hq2
              have f0 := L7.out.free 0
              have f1 := L7.out.free 1
              obtain ⟨l0, l1⟩ := L7.out.c2
              have g0 := R7.out.free 0
              have g1 := R7.out.free 1
              obtain ⟨r0, r1⟩ := R7.out.c2
              go_wp2
              refine bodyPost_ret (results_CCt rfl _ _ _ rfl ((L8.out.set2 _ _).oth2 (by omega) _ _) rfl ((R8.out.oth2 (by omega) _ _).set2 _ _) Tryd.underlying31 Tryd.infoLr Tryd.underlying25 Tryd.infoCur8) rfl ⟨.inl ⟨hF.out, rfl⟩, ?_⟩
              exact (((HB8.out.setCell (p := ⟨w.heap.size + 1, 0, none⟩) (by show w.heap.size ≤ w.heap.size + 1; omega) _).setCell (p := ⟨w.heap.size + 1, 1, none⟩) (by show w.heap.size ≤ w.heap.size + 1; omega) _).setCell (p := ⟨w.heap.size + 2, 0, none⟩) (by show w.heap.size ≤ w.heap.size + 2; omega) _).setCell (p := ⟨w.heap.size + 2, 1, none⟩) (by show w.heap.size ≤ w.heap.size + 2; omega) _
            · have hF := hideB2 (hN4'.out hq2)
              rw [hq2] at hend
              clear hN3' hN4' hq2
              have N8 := hideB2 (N7.out.oth2 (g := w.heap.size) (by omega) (.string s) (.int .i64 ((e2 : Int) + ((nn : Int) + 4))))
              have V8 := hideB2 ((V7.out.set hnev.out 0 (.string s)).set hnev.out 1 (.int .i64 ((e2 : Int) + ((nn : Int) + 4))))
              obtain ⟨n0, n1⟩ := N7.out.c2
              have m0 := N7.out.free 0
              have m1 := N7.out.free 1
              have f0 := L7.out.free 0
              have f1 := L7.out.free 1
              obtain ⟨l0, l1⟩ := L7.out.c2
              have g0 := R7.out.free 0
              have g1 := R7.out.free 1
              obtain ⟨r0, r1⟩ := R7.out.c2
              go_wp2
              have N9 : Blk (((w7.setCell ⟨w.heap.size, 0, none⟩ (.string s)).setCell ⟨w.heap.size, 1, none⟩ (.int .i64 ((e2 : Int) + ((nn : Int) + 4)))).setCell ⟨w3.heap.size, 1, none⟩ (.string Bk)) w3.heap.size #[.slice va m vc, .string Bk] 31 := N8.out.set 1 (.string Bk)
              have A9 := A8.out.other (b' := w3.heap.size) (by omega) 1 (.string Bk)
              have L9 := L8.out.other (b' := w3.heap.size) (by omega) 1 (.string Bk)
              have R9 := R8.out.other (b' := w3.heap.size) (by omega) 1 (.string Bk)
              have V9 := V8.out.set hltv.out 1 (.string Bk)
              have HB9 := HB8.out.setCell (p := ⟨w3.heap.size, 1, none⟩) (by show w.heap.size ≤ w3.heap.size; omega) (.string Bk)
              clear n0 n1 m0 m1 f0 f1 l0 l1 g0 g1 r0 r1 p0 p1 a0 a1
              generalize ((w7.setCell ⟨w.heap.size, 0, none⟩ (.string s)).setCell ⟨w.heap.size, 1, none⟩ (.int .i64 ((e2 : Int) + ((nn : Int) + 4)))).setCell ⟨w3.heap.size, 1, none⟩ (.string Bk) = W9 at *
              obtain ⟨n0, n1⟩ := N9.c2
              obtain ⟨p0, p1⟩ := A9.c2
              have f0 := L9.free 0
              have f1 := L9.free 1
              obtain ⟨l0, l1⟩ := L9.c2
              have g0 := R9.free 0
              have g1 := R9.free 1
              obtain ⟨r0, r1⟩ := R9.c2
              have HL9 := hideB2 L9
              have HR9 := hideB2 R9
              have HV9 := hideB2 V9
              have HB9' := hideB2 HB9
              clear L9 R9 V9 HB9 N9 A9
              have d1 : w3.heap.size ≠ w.heap.size + 1 := by omega
              have d2 : w3.heap.size ≠ w.heap.size + 1 + 1 := by omega
              have d3 : w.heap.size + 1 ≠ w3.heap.size := by omega
              have d4 : w.heap.size + 1 + 1 ≠ w3.heap.size := by omega
              go_region
              go_wp2
              have hkk : ((e2 + nn + 4 : Nat) : Int) = (e2 : Int) + ((nn : Int) + 4) := by omega
              refine bodyPost_ret (results_CCt rfl _ _ _ rfl ((HL9.out.drew.set2 _ _).oth2 (by omega) _ _) rfl ((HR9.out.drew.oth2 (by omega) _ _).set2 _ _) Tryd.underlying31 Tryd.infoLr Tryd.underlying25 Tryd.infoCur8) rfl ⟨.inr ⟨l, Bk, e2 + nn + 4, _, hF.out, by rw [hkk]; rfl, ?_, ?_⟩, ?_⟩
              · refine ((((HV9.out.keep (Below.refl _ W9).drew).set ?_ 0 _).set ?_ 1 _).set ?_ 0 _).set ?_ 1 _
                all_goals
                  intro hh
                  have := hne9.out _ hh
                  omega
              · intro g hg
                have := hne9.out g hg
                omega
              exact ((((HB9'.out.drew.setCell (p := ⟨w.heap.size + 1, 0, none⟩) (by show w.heap.size ≤ w.heap.size + 1; omega) _).setCell (p := ⟨w.heap.size + 1, 1, none⟩) (by show w.heap.size ≤ w.heap.size + 1; omega) _).setCell (p := ⟨w.heap.size + 2, 0, none⟩) (by show w.heap.size ≤ w.heap.size + 2; omega) _).setCell (p := ⟨w.heap.size + 2, 1, none⟩) (by show w.heap.size ≤ w.heap.size + 2; omega) _)
          · have hF := hideB2 (show X = none from hN2.out hfit)
            rw [tnV_no (s := s) (n := (e2 : Int)) (m := (nn : Int) + 4) (by unfold tnOk; rw [decide_eq_false (show ¬ (nn : Int) + 4 ≤ (s.size : Int) - (e2 : Int) by omega)]; simp)] at HTN
            unfold curZ at HTN
            clear hN1 hN2 hN3 hN4 hbn hbn0 hfit
            obtain ⟨q0, q1⟩ := A6.out.c2
            go_wp2_with fail
            refine (HTN.out _).mono ?_
            rintro e w7 ⟨rfl, hb7⟩
            clear q0 q1
            have A7 := hideB2 (A6.out.later hb7)
            have L7 := hideB2 (L6.out.later hb7)
            have R7 := hideB2 (R6.out.later hb7)
            have HB7 := hideB2 (below_then HB6.out hb7)
            clear hb7
            have a0 := A7.out.free 0
            have a1 := A7.out.free 1
            obtain ⟨p0, p1⟩ := A7.out.c2
            have A8 := hideB2 (A7.out.set2 (.string ⟨#[]⟩) (.int .i64 0))
            have L8 := hideB2 (L7.out.oth2 (g := w.heap.size) (by omega) (.string ⟨#[]⟩) (.int .i64 0))
            have R8 := hideB2 (R7.out.oth2 (g := w.heap.size) (by omega) (.string ⟨#[]⟩) (.int .i64 0))
            have HB8 := hideB2 ((HB7.out.setCell (p := ⟨w.heap.size, 0, none⟩) (Nat.le_refl _) (.string ⟨#[]⟩)).setCell (p := ⟨w.heap.size, 1, none⟩) (Nat.le_refl _) (.int .i64 0))
            have f0 := L7.out.free 0
            have f1 := L7.out.free 1
            obtain ⟨l0, l1⟩ := L7.out.c2
            have g0 := R7.out.free 0
            have g1 := R7.out.free 1
            obtain ⟨r0, r1⟩ := R7.out.c2
            go_wp2
            refine bodyPost_ret (results_CCt rfl _ _ _ rfl ((L8.out.set2 _ _).oth2 (by omega) _ _) rfl ((R8.out.oth2 (by omega) _ _).set2 _ _) Tryd.underlying31 Tryd.infoLr Tryd.underlying25 Tryd.infoCur8) rfl ⟨.inl ⟨hF.out, rfl⟩, ?_⟩
            exact (((HB8.out.setCell (p := ⟨w.heap.size + 1, 0, none⟩) (by show w.heap.size ≤ w.heap.size + 1; omega) _).setCell (p := ⟨w.heap.size + 1, 1, none⟩) (by show w.heap.size ≤ w.heap.size + 1; omega) _).setCell (p := ⟨w.heap.size + 2, 0, none⟩) (by show w.heap.size ≤ w.heap.size + 2; omega) _).setCell (p := ⟨w.heap.size + 2, 1, none⟩) (by show w.heap.size ≤ w.heap.size + 2; omega) _
  · obtain ⟨c, hc, hv⟩ := tlV_not h1
    rw [hv] at HTL
    unfold curZ at HTL
    have hF := hideB2 (show X = none from HX.out.symm.trans (grF_bad (by unfold grV; rw [decide_eq_false h1]; rfl)))
    clear hv h1
    go_enter Tryd.func8, Tryd.ntmps8
    go_wp2_with fail
    refine (HTL.out _).mono ?_
    rintro e w1 ⟨rfl, hb1⟩
    have A1 := hideB2 (A0.out.later hb1)
    have L1 := hideB2 (L0.out.later hb1)
    have R1 := hideB2 (R0.out.later hb1)
    have HB1 := hideB2 (below_then HB0.out hb1)
    clear hb1
    have a0 := A1.out.free 0
    have a1 := A1.out.free 1
    obtain ⟨p0, p1⟩ := A1.out.c2
    have A2 := hideB2 (A1.out.set2 (.string ⟨#[]⟩) (.int .i64 0))
    have L2 := hideB2 (L1.out.oth2 (g := w.heap.size) (by omega) (.string ⟨#[]⟩) (.int .i64 0))
    have R2 := hideB2 (R1.out.oth2 (g := w.heap.size) (by omega) (.string ⟨#[]⟩) (.int .i64 0))
    have HB2 := hideB2 ((HB1.out.setCell (p := ⟨w.heap.size, 0, none⟩) (Nat.le_refl _) (.string ⟨#[]⟩)).setCell (p := ⟨w.heap.size, 1, none⟩) (Nat.le_refl _) (.int .i64 0))
    have f0 := L1.out.free 0
    have f1 := L1.out.free 1
    obtain ⟨l0, l1⟩ := L1.out.c2
    have g0 := R1.out.free 0
    have g1 := R1.out.free 1
    obtain ⟨r0, r1⟩ := R1.out.c2
    go_wp2
    refine bodyPost_ret (results_CCt rfl _ _ _ rfl ((L2.out.set2 _ _).oth2 (by omega) _ _) rfl ((R2.out.oth2 (by omega) _ _).set2 _ _) Tryd.underlying31 Tryd.infoLr Tryd.underlying25 Tryd.infoCur8) rfl ⟨.inl ⟨hF.out, rfl⟩, ?_⟩
    exact (((HB2.out.setCell (p := ⟨w.heap.size + 1, 0, none⟩) (by show w.heap.size ≤ w.heap.size + 1; omega) _).setCell (p := ⟨w.heap.size + 1, 1, none⟩) (by show w.heap.size ≤ w.heap.size + 1; omega) _).setCell (p := ⟨w.heap.size + 2, 0, none⟩) (by show w.heap.size ≤ w.heap.size + 2; omega) _).setCell (p := ⟨w.heap.size + 2, 1, none⟩) (by show w.heap.size ≤ w.heap.size + 2; omega) _
end Go.Proofs.YtffjpidjhcnnmabDoor
namespace Go.Proofs.YtffjpidjhcnnmabDoor
set_option linter.unusedVariables false
set_option linter.unusedSimpArgs false
open Go.RowKit
def ptrB : Value → Nat
  | .pointer (some a) => a.block
  | _ => 0
def gramG (n : Nat) : Option Nat → Int
  | some r => ((n + r : Nat) : Int)
  | none => -1
theorem gramV_eq {s : ByteArray} (h : s.size ≤ 60000) : gramV s = gramG 0 (grmF s 0) := by
  unfold gramV
  rw [if_pos h]
  cases grmF s 0 with
  | none => rfl
  | some r => show (r : Int) = ((0 + r : Nat) : Int); rw [Nat.zero_add]
theorem gramV_big {s : ByteArray} (h : ¬ s.size ≤ 60000) : gramV s = -1 := by unfold gramV; rw [if_neg h]
theorem gramG_end {s : ByteArray} {n k : Nat} (h : s.size ≤ k) : gramG n (grmF s k) = (n : Int) := by rw [grmF_end h]; rfl
theorem gramG_none {s : ByteArray} {n k : Nat} (h : k < s.size) (h2 : grF s k = none) : gramG n (grmF s k) = -1 := by rw [grmF_step h, h2]; rfl
theorem gramG_some {s : ByteArray} {n k k' : Nat} {l : List Fd} {b : ByteArray} (h : k < s.size) (h2 : grF s k = some (l, b, k')) : gramG n (grmF s k) = gramG (n + 1) (grmF s k') := by
  rw [grmF_step h, h2]
  show gramG n ((grmF s k').map (· + 1)) = _
  cases grmF s k' with
  | none => rfl
  | some r => show ((n + (r + 1) : Nat) : Int) = ((n + 1 + r : Nat) : Int); congr 1; omega
set_option maxRecDepth 100000 in
set_option maxHeartbeats 8000000 in
theorem Grammar_any (s : ByteArray) (w : World) (hs : s.size ≤ 1048576) (hM : MonTab w) :
    Calls Tryd.prog 5 #[.string s] w fun e w' => e = .returned (.int .i64 (gramV s)) ∧ Below w.heap.size w w' := by
  by_cases hbig : s.size ≤ 60000
  · have hsm : s.size ≤ maxLen := by unfold maxLen; omega
    have hg0 := gramV_eq hbig
    generalize hG : gramV s = G at *
    clear hG
    have HG0 := hideB2 hg0
    have HMT := hideB2 hM
    have HS := hideB2 hs
    have HSM := hideB2 hsm
    have hbig' : ¬ (60000 : Int) < (s.size : Int) := by omega
    have HB0 := hideB2 (below_a1 w (.cells #[.string s, .int .i64 0] 25))
    have A0 := hideB2 (Blk.new w #[.string s, .int .i64 0] 25)
    have HBG := hideB2 hbig
    clear hM hs hg0 hsm hbig
    go_enter Tryd.func5, Tryd.ntmps5
    go_wp2
    generalize hW : w.alloc (.cells #[.string s, .int .i64 0] 25) = W1 at *
    clear hW
    go_loopw [3, 4] (fun ct p wr => ∃ (k n g : Nat), k ≤ s.size ∧ p = .pointer (some ⟨g, 0, none⟩) ∧ ct = .int .i64 (n : Int) ∧ n ≤ k ∧ Blk wr g #[.string s, .int .i64 (k : Int)] 25 ∧ w.heap.size ≤ g ∧ Below w.heap.size w wr ∧ Hid (G = gramG n (grmF s k))) (fun _ p wr => s.size - curAt wr (ptrB p))
    case atStart => exact ⟨0, 0, w.heap.size, Nat.zero_le _, rfl, rfl, Nat.zero_le _, A0.out, Nat.le_refl _, HB0.out, HG0⟩
    case round =>
      obtain ⟨k, n, g, hk, rfl, rfl, hnk, hA, hg, hbw, hx⟩ := hrel
      clear A0 HB0 HG0
      have HA := hideB2 hA
      have HBW := hideB2 hbw
      have HNK := hideB2 hnk
      have hm := hideB2 (curAt_blk hA)
      have hlt := hA.lt
      obtain ⟨p0, p1⟩ := hA.c2
      clear hA hbw hnk
      have HLF := hideB2 (fun W => left_any s k W HSM.out hk)
      by_cases hend : k = s.size
      · subst hend
        have hF := hideB2 (show G = (n : Int) from hx.out.trans (gramG_end (Nat.le_refl _)))
        obtain rfl := hF.out
        clear hx hF
        go_wp2_with (go_at_call 7; refine (HLF.out _).mono ?_; rintro e w2 ⟨rfl, rfl⟩)
        go_ret
        exact ⟨rfl, HBW.out.alloc HBW.out.size _⟩
      · have hlt' : k < s.size := by omega
        have hpos : ¬ (s.size : Int) - (k : Int) ≤ 0 := by omega
        have hpos' : (0 : Int) < (s.size : Int) - (k : Int) := by omega
        have HTL := hideB2 (fun W (h : MonTab W) => takeLoose_any s k W HS.out hk h)
        have hG1 := hideB2 (fun h => hx.out.trans (gramG_none (n := n) hlt' h))
        have hG2 := hideB2 (fun l b k' h => hx.out.trans (gramG_some (n := n) (k' := k') (l := l) (b := b) hlt' h))
        have hLE := hideB2 (fun l b k' h => grF_le (s := s) (k := k) (l := l) (b := b) (n := k') hk h)
        clear hx
        generalize hX : grF s k = X at *
        clear hX
        have hbA := hideB2 (below_a1 wr (.cells #[.string s, .int .i64 (k : Int)] 25))
        have A1 := hideB2 (HA.out.alloc (.cells #[.string s, .int .i64 (k : Int)] 25))
        have HB1 := hideB2 (below_then HBW.out hbA.out)
        clear hbA
        go_wp2_with (first | (go_at_call 7; refine (HLF.out _).mono ?_; rintro e w2 ⟨rfl, rfl⟩; obtain ⟨q0, q1⟩ := A1.out.c2) | fail)
        clear q0 q1 p0 p1
        refine (HTL.out _ (HMT.out.below HB1.out)).mono ?_
        rintro e w3 ⟨hres, hb3⟩
        have A3 := hideB2 (A1.out.later hb3)
        have HB3 := hideB2 (below_then HB1.out hb3)
        have hl3 := A3.out.lt
        clear hb3
        rcases hres with ⟨rfl, rfl⟩ | ⟨l, b, k', v, rfl, rfl, hsl, _⟩
        · have hF := hideB2 (hG1.out rfl)
          obtain rfl := hF.out
          have HB4 := hideB2 (below_then HB3.out (below_a2 w3 (.cells #[.slice none 0 0, .string ⟨#[]⟩] 31) (.cells #[.string ⟨#[]⟩, .int .i64 0] 25)))
          clear hG1 hG2 hLE hF
          go_wp2
          go_ret
          exact ⟨rfl, HB4.out⟩
        · have hF := hideB2 (hG2.out l b k' rfl)
          obtain ⟨hle1, hle2⟩ := hLE.out l b k' rfl
          clear hG1 hG2 hLE
          obtain ⟨va, vc, hvf⟩ := hsl.form
          clear hsl
          generalize l.length = m at hvf
          subst hvf
          have hb5 := hideB2 (below_a2 w3 (.cells #[.slice va m vc, .string b] 31) (.cells #[.string s, .int .i64 ((k' : Nat) : Int)] 25))
          have A5 := hideB2 (A3.out.later hb5.out)
          have N5 := hideB2 (Blk.new (w3.alloc (.cells #[.slice va m vc, .string b] 31)) #[.string s, .int .i64 ((k' : Nat) : Int)] 25)
          have HB5 := hideB2 (below_then HB3.out hb5.out)
          have hz1 : (w3.alloc (.cells #[.slice va m vc, .string b] 31)).heap.size = w3.heap.size + 1 := by simp
          rw [hz1] at N5
          clear hb5
          obtain ⟨n0, n1⟩ := N5.out.c2
          have f0 := A5.out.free 0
          have f1 := A5.out.free 1
          obtain ⟨p0, p1⟩ := A5.out.c2
          obtain ⟨s0, s1⟩ := A3.out.c2
          have t0 := A3.out.free 0
          have t1 := A3.out.free 1
          have d3 : g ≠ w3.heap.size := by omega
          have d4 : w3.heap.size ≠ g := by omega
          have d1 : g ≠ w3.heap.size + 1 := by omega
          have d2 : w3.heap.size + 1 ≠ g := by omega
          have hsb := HS.out
          have e1 : IntKind.i64.wrap ((n : Int) + 1) = (n : Int) + 1 := by have := HNK.out; rw [IntKind.wrap_i64]; omega
          have HB6 := hideB2 ((HB5.out.setCell (p := ⟨g, 0, none⟩) hg (.string s)).setCell (p := ⟨g, 1, none⟩) hg (.int .i64 ((k' : Nat) : Int)))
          go_wp2
          have HBs := hideB2 ((HB3.out.setCell (p := ⟨g, 0, none⟩) hg (.string s)).setCell (p := ⟨g, 1, none⟩) hg (.int .i64 ((k' : Nat) : Int)))
          have HBz := hideB2 (below_then HBs.out (below_a3 ((w3.setCell ⟨g, 0, none⟩ (.string s)).setCell ⟨g, 1, none⟩ (.int .i64 ((k' : Nat) : Int))) (.cells #[.slice va m vc, .string b] 31) (.cells #[.string s, .int .i64 ((k' : Nat) : Int)] 25) (.cells #[.string s, .int .i64 ((k' : Nat) : Int)] 25)))
          have hzz : ((((w3.setCell ⟨g, 0, none⟩ (.string s)).setCell ⟨g, 1, none⟩ (.int .i64 ((k' : Nat) : Int))).alloc (.cells #[.slice va m vc, .string b] 31)).alloc (.cells #[.string s, .int .i64 ((k' : Nat) : Int)] 25)).heap.size = w3.heap.size + 1 + 1 := by simp [World.setCell]
          have NZ := Blk.new ((((w3.setCell ⟨g, 0, none⟩ (.string s)).setCell ⟨g, 1, none⟩ (.int .i64 ((k' : Nat) : Int))).alloc (.cells #[.slice va m vc, .string b] 31)).alloc (.cells #[.string s, .int .i64 ((k' : Nat) : Int)] 25)) #[.string s, .int .i64 ((k' : Nat) : Int)] 25
          rw [hzz] at NZ
          have hw3 := HB3.out.size
          refine ⟨⟨k', n + 1, w3.heap.size + 1 + 1, hle2, rfl, by go_num, by have := HNK.out; omega, NZ, by omega, HBz.out, hF⟩, ?_⟩
          show s.size - curAt _ (w3.heap.size + 1 + 1) < s.size - curAt wr g
          rw [curAt_blk NZ, hm.out]
          omega
  · have hbig' : (60000 : Int) < (s.size : Int) := by omega
    have hF := hideB2 (gramV_big hbig)
    clear hbig
    go_enter Tryd.func5, Tryd.ntmps5
    go_wp2
    go_ret
    exact ⟨by rw [hF.out]; rfl, Below.refl _ _⟩
end Go.Proofs.YtffjpidjhcnnmabDoor
namespace Go.Proofs.YtffjpidjhcnnmabDoor
set_option linter.unusedVariables false
set_option linter.unusedSimpArgs false
open Go.RowKit
/-- A row of ints of one's own: block, cells. -/
structure RowN (w : World) (b : Nat) (l : List Nat) : Prop where
  cell : ∀ j, j < l.length → w.cell? ⟨b, j, none⟩ = some (.int .i64 ((l.getD j 0 : Nat) : Int))
  free : ∀ j, w.frozen? ⟨b, j, none⟩ = false
  lt : b < w.heap.size
theorem RowN.set {w : World} {b : Nat} {l : List Nat} (h : RowN w b l) (k v : Nat) (hk : k < l.length) : RowN (w.setCell ⟨b, k, none⟩ (.int .i64 (v : Int))) b (l.set k v) := by
  refine ⟨fun j hj => ?_, fun j => ?_, by simpa [World.setCell] using h.lt⟩
  · rw [List.length_set] at hj
    by_cases e : j = k
    · subst e
      rw [World.cell?_setCell_same _ _ _ (h.cell j hj)]
      simp [List.getD, hk]
    · rw [World.cell?_setCell_other _ _ _ _ (by intro hh; apply e; injection hh with _ h2; exact h2.symm), h.cell j hj]
      simp [List.getD, Ne.symm e]
  · rw [World.frozen?_setCell]
    exact h.free j
theorem RowN.later {w w' : World} {b B : Nat} {l : List Nat} (h : RowN w b l) (k : Below B w w') (hb : b < B) : RowN w' b l :=
  ⟨fun j hj => by rw [k.cell (p := ⟨b, j, none⟩) hb]; exact h.cell j hj, fun j => by rw [k.frozen (p := ⟨b, j, none⟩) hb]; exact h.free j, Nat.lt_of_lt_of_le h.lt k.size⟩
theorem RowN.drew {w : World} {b : Nat} {l : List Nat} (h : RowN w b l) : RowN w.drew b l := h.later (⟨rfl, rfl, rfl, Nat.le_refl _, fun _ _ => rfl⟩ : Below w.heap.size w w.drew) h.lt
theorem RowN.drewN {w : World} {b : Nat} {l : List Nat} (h : RowN w b l) (n : Nat) : RowN (w.drewN n) b l := h.later (⟨rfl, rfl, rfl, Nat.le_refl _, fun _ _ => rfl⟩ : Below w.heap.size w (w.drewN n)) h.lt
theorem Tryd.infoI : (Tryd.prog.info? 3).map (fun i => (i.zero, i.size, i.bytes)) = some (some (.int .i64 0), 1, 8) := by kernel_rfl
theorem rowN_made {w w' : World} {n : Nat} (h : w'.ownsRow w.heap.size 3 1 (.slice (some ⟨w.heap.size, 0, none⟩) n n) n (List.replicate n (.int .i64 0))) : RowN w' w.heap.size (List.replicate n 0) := by
  refine ⟨fun j hj => ?_, fun j => h.frozenAt j, (h.lt w.heap.size rfl).2⟩
  rw [List.length_replicate] at hj
  have := h.cells (g := w.heap.size) rfl j (.int .i64 0) (by simp [hj])
  rw [Addr.add_lit, Nat.zero_add] at this
  rw [this]; simp [List.getD, hj]
theorem wp_mkI {ops : Array Oper} {rest : List Oper} {o : Oper} {a : Act} {Q : Exit → Act → World → Prop} {w : World} (hg : o.guard = none) (l c : Operand) (hop : o.op = Op.makeSlice 36 l c)
    (n : Nat) (L C : Int) (hl : a.eval l = .int .i64 L) (hc : a.eval c = .int .i64 C) (hL : L = (n : Int)) (hC : C = (n : Int)) (hn : n ≤ 1048576)
    (hK : ∀ w', RowN w' w.heap.size (List.replicate n 0) → Below w.heap.size w w' → wpList Tryd.prog ops Q rest (a.put o.dst (.slice (some ⟨w.heap.size, 0, none⟩) n n)) w') :
    wpList Tryd.prog ops Q (o :: rest) a w := by
  obtain ⟨i0, hi, hz0, hz1, hz2⟩ := info_parts Tryd.infoI
  refine wpList_make_full w hg l c 36 hop w.heap.size 3 i0 (.int .i64 0) 1 Tryd.underlying36 hi hz0 hz1 .i64 .i64 L C n hl hc hL hC (by rw [hz2]; omega) (by unfold maxLen; omega) (Nat.le_refl _) ?_
  intro w' hown hgr
  refine hK w' (rowN_made ?_) ⟨hgr.os, hgr.tape, hgr.output, hgr.size, fun k hk => hgr.block k hk (by simp)⟩
  have e : (madeCells (Value.int .i64 0).cells (n * 1)).toList = List.replicate n (.int .i64 0) := by
    rw [Nat.mul_one]; exact toList_madeCells_one _ _
  rw [e] at hown
  exact hown
theorem RowN.oth {w : World} {b g : Nat} {l : List Nat} (h : RowN w b l) (hne : g ≠ b) (k : Nat) (v : Value) : RowN (w.setCell ⟨g, k, none⟩ v) b l :=
  ⟨fun j hj => by rw [World.cell?_setCell_other _ _ _ _ (by intro hh; injection hh with h1 _; exact hne h1)]; exact h.cell j hj, fun j => by rw [World.frozen?_setCell]; exact h.free j, by simpa [World.setCell] using h.lt⟩
theorem RowN.keep {w w' : World} {b : Nat} {l : List Nat} (h : RowN w b l) (k : Below w.heap.size w w') : RowN w' b l := h.later k h.lt
end Go.Proofs.YtffjpidjhcnnmabDoor
namespace Go.Proofs.YtffjpidjhcnnmabDoor
set_option linter.unusedVariables false
set_option linter.unusedSimpArgs false
open Go.RowKit

theorem vldB_no {y m d h i s : Int} (hn : ¬ vld y m d h i s) : vldB y m d h i s = false := Bool.eq_false_iff.2 fun hh => hn (vldB_iff.1 hh)
set_option maxHeartbeats 8000000 in
theorem sCivilOk_any (y m d h i s : Int) (w : World) :
    Calls Tryd.prog 57 #[civ y m d h i s] w fun e w' => e = .returned (.bool (vldB y m d h i s)) ∧ Below w.heap.size w w' := by
  have HB := fun o n => below_drewN ((Below.refl w.heap.size w).alloc (Nat.le_refl _) o) n
  go_enter Tryd.func57, Tryd.ntmps57
  go_wp2
  refine wp_region_quiet_lit ?_ ?_ ?_
  · kernel_rfl
  · kernel_rfl
  · repeat (go_big_quiet_step (fail))
    cases c0 : decide (1970 ≤ y)
    · repeat (go_big_quiet_step (fail))
      refine wpQuiet_nil ?_
      rintro _ ⟨nq, rfl⟩
      go_wp2
      go_ret
      exact ⟨ret_bool (vldB_no fun hv => by have := of_decide_eq_false c0; unfold vld at hv; omega), HB _ _⟩
    · repeat (go_big_quiet_step (fail))
      cases c1 : decide (y ≤ 9999)
      · repeat (go_big_quiet_step (fail))
        refine wpQuiet_nil ?_
        rintro _ ⟨nq, rfl⟩
        go_wp2
        go_ret
        exact ⟨ret_bool (vldB_no fun hv => by have := of_decide_eq_false c1; unfold vld at hv; omega), HB _ _⟩
      · repeat (go_big_quiet_step (fail))
        cases c2 : decide (1 ≤ m)
        · repeat (go_big_quiet_step (fail))
          refine wpQuiet_nil ?_
          rintro _ ⟨nq, rfl⟩
          go_wp2
          go_ret
          exact ⟨ret_bool (vldB_no fun hv => by have := of_decide_eq_false c2; unfold vld at hv; omega), HB _ _⟩
        · repeat (go_big_quiet_step (fail))
          cases c3 : decide (m ≤ 12)
          · repeat (go_big_quiet_step (fail))
            refine wpQuiet_nil ?_
            rintro _ ⟨nq, rfl⟩
            go_wp2
            go_ret
            exact ⟨ret_bool (vldB_no fun hv => by have := of_decide_eq_false c3; unfold vld at hv; omega), HB _ _⟩
          · repeat (go_big_quiet_step (fail))
            cases c4 : decide (1 ≤ d)
            · repeat (go_big_quiet_step (fail))
              refine wpQuiet_nil ?_
              rintro _ ⟨nq, rfl⟩
              go_wp2
              go_ret
              exact ⟨ret_bool (vldB_no fun hv => by have := of_decide_eq_false c4; unfold vld at hv; omega), HB _ _⟩
            · repeat (go_big_quiet_step ((go_at_call 59; exact Calls.quiet_of_same (l2days_any _ _ _ (by have := of_decide_eq_true c0; omega) (by have := of_decide_eq_true c1; omega)))))
              cases c5 : decide (d ≤ dim y m)
              · repeat (go_big_quiet_step (fail))
                refine wpQuiet_nil ?_
                rintro _ ⟨nq, rfl⟩
                go_wp2
                go_ret
                exact ⟨ret_bool (vldB_no fun hv => by have := of_decide_eq_false c5; unfold vld at hv; omega), HB _ _⟩
              · repeat (go_big_quiet_step (fail))
                cases c6 : decide (0 ≤ h)
                · repeat (go_big_quiet_step (fail))
                  refine wpQuiet_nil ?_
                  rintro _ ⟨nq, rfl⟩
                  go_wp2
                  go_ret
                  exact ⟨ret_bool (vldB_no fun hv => by have := of_decide_eq_false c6; unfold vld at hv; omega), HB _ _⟩
                · repeat (go_big_quiet_step (fail))
                  cases c7 : decide (h ≤ 23)
                  · repeat (go_big_quiet_step (fail))
                    refine wpQuiet_nil ?_
                    rintro _ ⟨nq, rfl⟩
                    go_wp2
                    go_ret
                    exact ⟨ret_bool (vldB_no fun hv => by have := of_decide_eq_false c7; unfold vld at hv; omega), HB _ _⟩
                  · repeat (go_big_quiet_step (fail))
                    cases c8 : decide (0 ≤ i)
                    · repeat (go_big_quiet_step (fail))
                      refine wpQuiet_nil ?_
                      rintro _ ⟨nq, rfl⟩
                      go_wp2
                      go_ret
                      exact ⟨ret_bool (vldB_no fun hv => by have := of_decide_eq_false c8; unfold vld at hv; omega), HB _ _⟩
                    · repeat (go_big_quiet_step (fail))
                      cases c9 : decide (i ≤ 59)
                      · repeat (go_big_quiet_step (fail))
                        refine wpQuiet_nil ?_
                        rintro _ ⟨nq, rfl⟩
                        go_wp2
                        go_ret
                        exact ⟨ret_bool (vldB_no fun hv => by have := of_decide_eq_false c9; unfold vld at hv; omega), HB _ _⟩
                      · repeat (go_big_quiet_step (fail))
                        cases c10 : decide (0 ≤ s)
                        · repeat (go_big_quiet_step (fail))
                          refine wpQuiet_nil ?_
                          rintro _ ⟨nq, rfl⟩
                          go_wp2
                          go_ret
                          exact ⟨ret_bool (vldB_no fun hv => by have := of_decide_eq_false c10; unfold vld at hv; omega), HB _ _⟩
                        · repeat (go_big_quiet_step (fail))
                          cases c11 : decide (s ≤ 59)
                          · repeat (go_big_quiet_step (fail))
                            refine wpQuiet_nil ?_
                            rintro _ ⟨nq, rfl⟩
                            go_wp2
                            go_ret
                            exact ⟨ret_bool (vldB_no fun hv => by have := of_decide_eq_false c11; unfold vld at hv; omega), HB _ _⟩
                          · repeat (go_big_quiet_step (fail))
                            refine wpQuiet_nil ?_
                            rintro _ ⟨nq, rfl⟩
                            go_wp2
                            go_ret
                            exact ⟨ret_bool (vldB_iff.2 ⟨of_decide_eq_true c0, of_decide_eq_true c1, of_decide_eq_true c2, of_decide_eq_true c3, of_decide_eq_true c4, of_decide_eq_true c5, of_decide_eq_true c6, of_decide_eq_true c7, of_decide_eq_true c8, of_decide_eq_true c9, of_decide_eq_true c10, of_decide_eq_true c11⟩), HB _ _⟩
end Go.Proofs.YtffjpidjhcnnmabDoor
