/-
  FnHops: what goes from end to end has no name that speaks of this connection, goes so again, and loses nothing else. What the table of the seven names holds is laid by the program's own text (the card).
-/
import Derived.Test.YtmhohponikolfaaGreatDoorRows
import Derived.Test.YtmhohponikolfaaGreatDoorTie
import Derived.Test.YtmhohponikolfaaGreatDoorCards
import Derived.Test.YtmhohponikolfaaGreatDoorJ3
import Derived.Test.YtmhohponikolfaaGreatDoorJ4
namespace Go.Proofs.YtmhohponikolfaaGreatDoor
set_option linter.unusedVariables false
set_option linter.unusedSimpArgs false
open Go.ChangeShapes Go.WideShapes Go.ChangeAt Go.RowKit
open Go.ChangeMaps (open_string shut_string)
theorem fnHops_tabs {W : World} (h : laidMet Tryz.prog Rows.fnHopsRow.laid W) : Hops W := hops_of_laid (.head _) h
set_option maxRecDepth 100000 in
set_option maxHeartbeats 4000000 in
theorem fnHops_walk (a : Option Addr) (len cap : Nat) (zs : List Int) (w : World) (hz : IsRow .u8 w a len cap zs) (hT : Hops w) :
    Calls Tryz.prog 3 #[.slice a len cap] w fun e w' => e = .returned (.bool true) ∧ Below w.heap.size w w' := by
  have hc := code_of hz
  go_enter Tryz.func3, Tryz.ntmps3
  go_wp2_with fail
  refine (DrawEndToEnd_any a len cap _ hc).mono ?_
  rintro e w1 ⟨v, l, rfl, hl, hsh, hbuf⟩
  have HSH := hideB2 hsh
  obtain ⟨hs1, _, hb1⟩ := hbuf.ans
  have htot := short_tot hsh (by omega)
  have HL := hideB2 (show l.length ≤ 1048576 by omega)
  clear hbuf hc hz hsh
  go_wp2_with fail
  refine (EndToEnd_any v l _ hs1 HL.out htot (hT.later hb1)).mono ?_
  rintro e w2 ⟨v2, rfl, hbuf2⟩
  obtain ⟨hs2, _, hb2⟩ := hbuf2.ans
  have hv2 := hs1.later hb2
  have hbw2 := below_then hb1 hb2
  clear hs1 hbuf2 hb1 hb2
  go_wp2_with fail
  refine (sHopNames_any v l _ hv2 HL.out htot).mono ?_
  rintro e w3 ⟨v3, rfl, hbuf3⟩
  obtain ⟨hs3, _, hb3⟩ := hbuf3.ans
  have HV := hideB2 (hv2.later hb3)
  have HX := hideB2 (hs2.later hb3)
  have HN := hideB2 hs3
  have hbw := below_then hbw2 hb3
  have HXL := hideB2 (e2eL_len l)
  have HTW := hideB2 (e2eL_twice l)
  have hxs : ∀ x ∈ e2eL l, x ∈ l := by
    intro x hx
    unfold e2eL at hx
    split at hx
    · exact (List.mem_filter.1 hx).1
    · simp at hx
  have HXT := hideB2 (short_tot (l := e2eL l) (fun x hx => HSH.out x (hxs x hx)) (by have := HXL.out; omega))
  have HHS := hideB2 (hopL_sizes l)
  have HHF := hideB2 (hopL_fold l)
  have hhl := hopL_len l
  obtain ⟨a1, c1, rfl⟩ := HV.out.form
  obtain ⟨a2, c2, rfl⟩ := HX.out.form
  obtain ⟨a3, c3, rfl⟩ := HN.out.form
  have HBW := hideB2 hbw
  have HT := hideB2 hT
  clear hv2 hs2 hs3 hb3 hbw2 hbw hbuf3 hxs hT htot
  cases hq : fieldsQ l
  · have hN := hopL_nil hq
    have hX : e2eL l = [] := by unfold e2eL; rw [hq]; rfl
    rw [hN] at HN
    rw [hX] at HX HXT HTW
    rw [hN, hX]
    clear hN hX hq HHS HHF HXL hhl
    go_wp2
    go_loopw [6, 7] (fun n i wr => n = .int .i64 0 ∧ i = .int .i64 0 ∧ wr = w3) (fun _ _ _ => 0)
    case atStart => exact ⟨rfl, rfl, rfl⟩
    case round =>
      obtain ⟨rfl, rfl, rfl⟩ := hrel
      by_cases h0 : (0 : Int) < (l.length : Int)
      all_goals
        go_wp2_with (first
          | (go_at_call 9; refine (EndToEnd_any _ [] _ HX.out (by decide) HXT.out (HT.out.later HBW.out)).mono ?_; rintro e w4 ⟨v4, rfl, hbuf4⟩; obtain ⟨hs4, _, hb4⟩ := hbuf4.ans; rw [HTW.out] at hs4)
          | (go_at_call 12; refine (sameFields_same _ _ [] _ hs4 (HX.out.later hb4) (by decide)).mono ?_; rintro e w5 ⟨rfl, hb5⟩)
          | (go_at_call 13; refine (heads_any _ (HT.out.later (below_then HBW.out (below_then hb4 hb5)))).mono ?_; rintro e w6 ⟨rfl, hb6⟩))
        go_ret
        exact ⟨rfl, below_then HBW.out (below_then (below_then hb4 hb5) hb6)⟩
  · have hX := e2eL_hop hq
    have hpos := hopL_pos hq
    have HAT := hideB2 (fun i (hi : i < l.length) (h : inNl (hopL l) (foldB (fdAt l i).1) = false) => elseL_at l (hopL l) i hi h)
    have HNE := hideB2 (fun i (hi : i < l.length) => elseL_next l (hopL l) i hi)
    rw [← hX] at HAT
    generalize hopL l = N at *
    generalize hXX : e2eL l = X at *
    have HXE := hideB2 hX
    clear hXX hq hX
    generalize hm : l.length = m at *
    have HM := hideB2 hm
    clear hm
    have hposI : (0 : Int) < (N.length : Int) := by omega
    go_wp2
    go_loopw [6, 7] (fun n i wr => ∃ k : Nat, k ≤ m ∧ i = .int .i64 (k : Int) ∧ n = .int .i64 ((elseL (l.take k) N).length : Int) ∧ Below w3.heap.size w3 wr) (fun _ i _ => m - (intOf i).toNat)
    case atStart => exact ⟨0, Nat.zero_le _, rfl, rfl, Below.refl _ _⟩
    case round =>
      obtain ⟨i, hi, rfl, rfl, hb⟩ := hrel
      by_cases hlt : i < m
      · have hltI : (i : Int) < (m : Int) := by omega
        obtain ⟨b1, rfl, hr1⟩ := HV.out.row (by rw [HM.out]; omega)
        obtain ⟨b3, rfl, hr3⟩ := HN.out.row hpos
        have hsz := HSH.out (fdAt l i) (by rw [fdAt_get (by rw [HM.out]; exact hlt)]; exact List.getElem_mem _)
        have hAT := HAT.out i (by first | exact hlt | (rw [HM.out]; exact hlt))
        have hNE := HNE.out i (by first | exact hlt | (rw [HM.out]; exact hlt))
        have hnl : (elseL (l.take i) N).length ≤ 21 := by
          have := elseL_len (l.take i) N
          rw [List.length_take] at this; omega
        have HB := hideB2 hb
        clear hb
        go_wp2
        go_loopw [8, 9] (fun o j wq => ∃ k : Nat, k ≤ N.length ∧ j = .int .i64 (k : Int) ∧ o = .bool (inNl (N.take k) (foldB (fdAt l i).1)) ∧ Below w3.heap.size w3 wq) (fun _ j _ => N.length - (intOf j).toNat)
        case atStart => exact ⟨0, Nat.zero_le _, rfl, rfl, HB.out⟩
        case round =>
          obtain ⟨k, hk, rfl, rfl, hbq⟩ := hrel
          have p0 := (hr1.keep hbq).dat i (by rw [HM.out]; exact hlt)
          have p1 := (hr1.keep hbq).saf i (by rw [HM.out]; exact hlt)
          by_cases hlt2 : k < N.length
          · have hltI2 : (k : Int) < (N.length : Int) := by omega
            have HNN := hideB2 (inNl_next N (foldB (fdAt l i).1) k hlt2)
            have htm : txAt N k ∈ N := by rw [txAt_get hlt2]; exact List.getElem_mem _
            have htf := HHF.out _ htm
            have hts := HHS.out _ htm
            have q0 := (hr3.keep hbq).cell k hlt2
            clear hAT hNE htm
            generalize fdAt l i = x at *
            obtain ⟨d, s⟩ := x
            generalize txAt N k = t at *
            simp only at p0 p1 q0 hsz HNN
            have hE : eqB (foldB d) t = eqB (foldB d) (foldB t) := by rw [htf]
            rw [hE] at HNN
            have HSF := hideB2 (fun V : Gr wr => sSameFold_any d t (grw wr V) (by unfold maxLen; omega) (by unfold maxLen; omega))
            have z0 := fun V => grw_some p0 V
            have z1 := fun V => grw_some q0 V
            generalize eqB (foldB d) (foldB t) = bb at *
            generalize inNl (N.take k) (foldB d) = o1 at *
            have HBQ := hideB2 hbq
            clear hbq hE htf hts hsz p0 p1 q0 HAT HNE HHS HHF HTW
            cases o1
            all_goals
              go_wp2
              refine wp_region_grow ?_ ?_ ?_
              · kernel_rfl
              · kernel_rfl
              · intro hne
                repeat (go_big_quiet_step ((go_at_call 11; exact grow_call (HSF.out _))))
                refine wpQuiet_nil ?_
                rintro _ ⟨V, rfl⟩
                have hbb := hideB2 (below_then HBQ.out (grw_below wr V))
                clear z0 z1 HSF HBQ
                generalize grw wr V = w5 at *
                go_wp2
                exact ⟨⟨k + 1, by omega, by go_num, by rw [HNN.out]; simp, hbb.out⟩, by simp [intOf]; omega⟩
          · obtain rfl : k = N.length := by omega
            rw [List.take_length]
            have HBQ := hideB2 hbq
            cases hin : inNl N (foldB (fdAt l i).1)
            · rw [hin] at hNE
              obtain ⟨hn1, hn2⟩ := hAT hin
              obtain ⟨b2, rfl, hr2⟩ := HX.out.row (by omega)
              have q0 := (hr2.keep hbq).dat _ hn1
              have q1 := (hr2.keep hbq).saf _ hn1
              rw [hn2] at q0 q1
              have HNL := hideB2 (show ((elseL (l.take (i + 1)) N).length : Int) = ((elseL (l.take i) N).length : Int) + 1 by rw [hNE]; simp)
              generalize (elseL (l.take i) N).length = n at *
              clear hNE hAT hin hr1 hr2 hr3 hn2 HAT HNE HHS HHF HTW hbq
              generalize fdAt l i = x at *
              obtain ⟨d, s⟩ := x
              simp only at p0 p1 q0 q1
              obtain ⟨hdd, hss⟩ := fields_eq d s
              have hnI : (n : Int) < (X.length : Int) := by omega
              have hge : ¬ (X.length : Int) ≤ (n : Int) := by omega
              have hge2 : decide ((X.length : Int) ≤ (n : Int)) = false := by simp; omega
              go_wp2
              go_quiet (fail)
              go_wp2
              exact ⟨⟨i + 1, by omega, by go_num, by rw [HNL.out], Below.drewNs HBQ.out _⟩, by simp [intOf]; omega⟩
            · rw [hin] at hNE
              have HNL := hideB2 (show ((elseL (l.take (i + 1)) N).length : Int) = ((elseL (l.take i) N).length : Int) by rw [hNE]; simp)
              clear hNE hAT hin hr1 hr3 HAT HNE HHS HHF HTW hbq p0 p1
              go_wp2
              exact ⟨⟨i + 1, by omega, by go_num, by rw [HNL.out], HBQ.out⟩, by simp [intOf]; omega⟩
      · obtain rfl : i = m := by omega
        have hEL : elseL (l.take i) N = X := by rw [List.take_of_length_le (by rw [HM.out]; exact Nat.le_refl _), HXE.out]
        rw [hEL]
        have hxl := HXL.out
        have HB3 := hideB2 (below_then HBW.out hb)
        have HX2 := hideB2 (HX.out.later hb)
        clear hEL HXE HAT HNE HHS HHF hb HX HV HN HBW
        have hxx : ((X.length : Int) == (X.length : Int)) = true := by simp
        go_wp2_with fail
        refine (EndToEnd_any _ X _ HX2.out (by omega) HXT.out (HT.out.later HB3.out)).mono ?_
        rintro e w4 ⟨v4, rfl, hbuf4⟩
        obtain ⟨hs4, _, hb4⟩ := hbuf4.ans
        rw [HTW.out] at hs4
        go_wp2_with fail
        refine (sameFields_same _ _ X _ hs4 (HX2.out.later hb4) (by omega)).mono ?_
        rintro e w5 ⟨rfl, hb5⟩
        go_wp2_with (go_at_call 13; refine (heads_any _ (HT.out.later (below_then HB3.out (below_then hb4 hb5)))).mono ?_; rintro e w6 ⟨rfl, hb6⟩)
        go_ret
        exact ⟨rfl, below_then HB3.out (below_then (below_then hb4 hb5) hb6)⟩
/-- A world that meets the condition: the settled one, the listed tables laid. -/
theorem fnHops_laid_met (os : Os) (args : Array Value) : laidMet Tryz.prog Rows.fnHopsRow.laid (({ (World.holding Tryz.prog os ⟨#[], #[], []⟩) with heap := ((World.holding Tryz.prog os ⟨#[], #[], []⟩).heap.modify 0 (laidRow #[.string ⟨#[99, 111, 110, 110, 101, 99, 116, 105, 111, 110]⟩, .string ⟨#[107, 101, 101, 112, 45, 97, 108, 105, 118, 101]⟩, .string ⟨#[112, 114, 111, 120, 121, 45, 99, 111, 110, 110, 101, 99, 116, 105, 111, 110]⟩, .string ⟨#[116, 101]⟩, .string ⟨#[116, 114, 97, 105, 108, 101, 114]⟩, .string ⟨#[116, 114, 97, 110, 115, 102, 101, 114, 45, 101, 110, 99, 111, 100, 105, 110, 103]⟩, .string ⟨#[117, 112, 103, 114, 97, 100, 101]⟩])) } : World).forCall (fun _ _ => 0) ⟨#[], args, []⟩).memory :=
  laidMet_of_run' 8 (by kernel_rfl) (by kernel_rfl)
set_option maxRecDepth 100000 in
theorem fnHops_lifted (os : Os) (started : os.Started) (H : Type) (enc : TypeId × Value → H) :
    ReturnsInHanded {} Tryz.checked os 3 .any (fun w args => (Rows.fnHopsSpec.pre enc Tryz.prog Tryz.f3 [] false w args ∧ laidMetH Tryz.prog Rows.fnHopsRow.laid w) ∧ sizedMet enc Tryz.prog Tryz.f3 (OpenSpec.ofChange Rows.fnHopsSpec) false w args)
      (Rows.fnHopsSpec.post enc Tryz.prog Tryz.f3 false true false false) := by
  refine returnsInHanded_of_change_and (C := Tryz.checked) (X := fun w _ => laidMetH Tryz.prog Rows.fnHopsRow.laid w) (fun _ _ _ hh h => h.of_heap hh) Tryz.own started (by kernel_rfl) Tryz.func3
    (ChangeSpec.witness_at (enc := enc) (C := Tryz.checked) (os := os) (X := fun w _ => laidMetH Tryz.prog Rows.fnHopsRow.laid w) false ({ (World.holding Tryz.prog os ⟨#[], #[], []⟩) with heap := ((World.holding Tryz.prog os ⟨#[], #[], []⟩).heap.modify 0 (laidRow #[.string ⟨#[99, 111, 110, 110, 101, 99, 116, 105, 111, 110]⟩, .string ⟨#[107, 101, 101, 112, 45, 97, 108, 105, 118, 101]⟩, .string ⟨#[112, 114, 111, 120, 121, 45, 99, 111, 110, 110, 101, 99, 116, 105, 111, 110]⟩, .string ⟨#[116, 101]⟩, .string ⟨#[116, 114, 97, 105, 108, 101, 114]⟩, .string ⟨#[116, 114, 97, 110, 115, 102, 101, 114, 45, 101, 110, 99, 111, 100, 105, 110, 103]⟩, .string ⟨#[117, 112, 103, 114, 97, 100, 101]⟩])) } : World) #[.slice none 0 0] 8 rfl (by kernel_rfl) (by kernel_rfl) (by kernel_rfl) (by kernel_rfl) (by kernel_rfl) (fnHops_laid_met os _)) ?_
  intro W base args ds gs before hval0 hW _ _ hL _
  have hval : ∀ (j : Nat) t v, Tryz.f3.params[j]? = some t → args[j]? = some v → Value.okWide Tryz.prog W .any base t v := hval0
  have hW' := hW
  obtain ⟨p, q, hA0, hV, rfl, hfz, hnd⟩ := hW
  have hA : DataW.TrodAll enc Tryz.prog W 0 (fun _ => true) true Tryz.f3.params.toList args.toList ds p := hA0
  rw [Tryz.params3] at hA hval
  obtain ⟨v0, vs0, d0, ds0, p0, q0, hargs, rfl, rfl, h0, r0⟩ := trodAll_cons hA
  obtain ⟨rfl, rfl, rfl⟩ := trodAll_nil r0
  obtain rfl : args = #[v0] := by cases args; simp_all
  obtain ⟨g1, rfl⟩ := trodVars_one' hV
  obtain ⟨a0, len0, cap0, rfl⟩ := okWide_slice Tryz.underlying22 (hval 0 22 v0 rfl rfl)
  have k0 := h0
  have lt0 : ∀ x ∈ p0, x.block < W.heap.size := by obtain ⟨m, hm⟩ := k0; exact DataW.trod_lt m _ _ _ hm
  obtain ⟨z0, w0⟩ : ∃ zs, IsRow .u8 W a0 len0 cap0 zs := by
    obtain ⟨fuel, hf⟩ := h0
    rcases open_ints Tryz.underlying22 Tryz.underlying5 (by kernel_rfl) hf with ⟨hcs, _⟩ | ⟨x, l, c, zs, hcs, _, hl, hm, hz, _, hcell, hwz⟩
    · simp [Value.cells] at hcs
      obtain ⟨rfl, rfl, rfl⟩ := hcs
      exact ⟨[], .inl ⟨rfl, rfl, rfl, rfl⟩⟩
    · simp [Value.cells] at hcs
      obtain ⟨rfl, rfl, rfl⟩ := hcs
      exact ⟨zs, .inr ⟨_, rfl, hl, hm, by simpa using hz, hcell, hwz⟩⟩
  have tabs := fnHops_tabs (W := W) hL
  clear hA0 hval0
  refine (fnHops_walk a0 len0 cap0 z0 W w0 tabs).mono fun e W' ⟨he, bel⟩ => ?_
  subst he
  exact ⟨_, rfl, _, _, _, [], _, _, hW', trodAll_mk1 (shut_bool Tryz.underlying4 _), (trodAll_cons_mk (Below.trod Tryz.laidOut (by kernel_rfl) (of_decide_eq_true (by kernel_rfl)) k0 bel lt0) trodAll_mk0), (Below.trodVars Tryz.laidOut bel (by kernel_rfl) hV), bel.frame _, fun h => by cases h⟩
theorem fnHops_row : Rows.FnHopsSaid :=
  OpenClaim.holds_of_wide 3 Tryz.f3 rfl rfl rfl rfl rfl rfl rfl ⟨rfl, rfl, rfl, rfl, rfl⟩ rfl rfl rfl rfl rfl (by kernel_rfl) Tryz.func3 (by kernel_rfl)
    (of_decide_eq_true (by kernel_rfl)) (by unfold Func.isWrapper; first | (rw [if_pos (by decide +kernel)]; kernel_rfl) | (rw [if_neg (by decide +kernel)]; exact ⟨rfl, rfl⟩))
    (fun os started H enc _ => fnHops_lifted os started H enc)
/-- THE STATEMENT: the card. -/
theorem fnHops_holds : Rows.FnHopsCardSaid :=
  Claim7.holds_tied_plain_at .later [] [.data] true (true, "7ffb68e5162f9d295a049a5d346cb18a3bf8ac4188488a03a7258529e0095d6c") false
    fnHops_row (fun _ h => by cases h) (by kernel_rfl) (fun _ h => by cases h) fnHops_row_tie rfl ⟨rfl, rfl⟩ (by kernel_rfl) rfl
    (fun f fn hf hfn => by
      obtain rfl : f = 3 := Option.some.inj ((show Tryz.prog.funcNamed "loop.example/g00651/laws.FnHops" = some 3 by kernel_rfl).symm.trans hf) |>.symm
      obtain rfl : fn = Tryz.f3 := (Option.some.inj (Tryz.func3.symm.trans hfn)).symm
      exact ⟨by kernel_rfl, fun j t ht => by
        rw [Tryz.params3] at ht
        rcases j with _ | j
        · have h3 : t = 22 := by simpa using ht.symm
          subst h3
          exact (show Tryz.prog.wantsStandIn 22 = false by kernel_rfl)
        · simp at ht⟩)
    (by kernel_rfl)
#print axioms fnHops_holds
end Go.Proofs.YtmhohponikolfaaGreatDoor
