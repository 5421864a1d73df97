/-
  FnCuts: what is cut keeps its first bytes, and these are safe. What the library's type of errors holds is laid by the program's own text (the card).
-/
import Derived.Test.YtknpolmenfdheaaDoorRows
import Derived.Test.YtknpolmenfdheaaDoorTie
import Derived.Test.YtknpolmenfdheaaDoorCards
import Derived.Test.YtknpolmenfdheaaDoorG23
import Derived.Test.YtknpolmenfdheaaDoorOpenC
import Derived.Test.YtknpolmenfdheaaDoorOpenE
namespace Go.Proofs.YtknpolmenfdheaaDoor
set_option linter.unusedVariables false
set_option linter.unusedSimpArgs false
open Go.ChangeShapes Go.WideShapes Go.ChangeAt Go.RowKit
open Go.ChangeMaps (open_string shut_string)
theorem catB_pre (l L : List Sg) (t : List UInt8) (h : catL l = catL L ++ t) : (catB L).size ≤ (catB l).size ∧ (catB l).extract 0 (catB L).size = catB L := by
  have e1 := catL_len L
  have e2 := catL_len l
  refine ⟨by rw [catB_size, catB_size, ← e1, ← e2, h, List.length_append]; omega, ?_⟩
  apply bytes_ext
  rw [catB_size, ← e1]
  simp only [ByteArray.data_extract, Array.toList_extract, List.extract, catB, h]
  simp
/-- What a cut that goes well leaves. -/
theorem cut_facts {l : List Sg} {c m : Int} (h : (cutR l c m).2 = 0) : ∃ L t, (cutR l c m).1 = some L ∧ storeQ L c = true ∧ storeQ l c = true ∧ catL l = catL L ++ t ∧ (totG L : Int) = (totG l : Int) - ((lastN l : Int) - m) ∧
    ((sgAt L (L.length - 1)).1.size : Int) - (sgAt L (L.length - 1)).2 = 0 ∧ 0 ≤ m ∧ m ≤ (lastN l : Int) := by
  obtain ⟨p, y, rfl, hs, h0, h1, hh⟩ := cutR_ok h
  have hq := stq_iff.2 hs
  have hln : lastN (p ++ [y]) = y.1.size := by unfold lastN; rw [lastG_snoc]
  rcases hh with ⟨e, hs2⟩ | ⟨rfl, p', x, rfl, e, hs2, hx⟩
  · refine ⟨p ++ [(y.1.extract 0 m.toNat, m)], y.1.data.toList.drop m.toNat, by rw [e], stq_iff.2 hs2, hq, ?_, ?_, ?_, h0, by rw [hln]; exact h1⟩
    · rw [catL_app, catL_app, catL_one, catL_one, List.append_assoc]
      congr 1
      simp only [ByteArray.data_extract, Array.toList_extract, List.extract]
      simp
    · rw [totG_app, totG_app, totG_one, totG_one, hln]
      have := ext_size y.1 m h0 h1
      simp only
      omega
    · have e2 : sgAt (p ++ [(y.1.extract 0 m.toNat, m)]) ((p ++ [(y.1.extract 0 m.toNat, m)]).length - 1) = (y.1.extract 0 m.toNat, m) := lastG_snoc _ _
      rw [e2]
      have := ext_size y.1 m h0 h1
      simp only
      omega
  · refine ⟨p' ++ [x], y.1.data.toList, by rw [e], stq_iff.2 hs2, hq, by rw [catL_app (p' ++ [x]), catL_one], ?_, ?_, h0, by rw [hln]; exact h1⟩
    · rw [totG_app (p' ++ [x]), totG_one y, hln]; omega
    · have e2 : sgAt (p' ++ [x]) ((p' ++ [x]).length - 1) = x := lastG_snoc _ _
      rw [e2, hx]; omega
set_option maxRecDepth 10000 in
set_option maxHeartbeats 4000000 in
theorem fnCuts_walk (a0 : Option Addr) (len0 cap0 : Nat) (z0 : List Int) (w : World) (w0 : IsRow .u8 w a0 len0 cap0 z0) (hE : EG w) :
    Calls Tryd.prog 6 #[.slice a0 len0 cap0] w fun e w' => e = .returned (.bool true) ∧ Below w.heap.size w w' := by
  have hc := code_of w0
  clear w0
  go_enter Tryd.func6, Tryd.ntmps6
  go_wp2_with fail
  refine (DrawCut_any a0 len0 cap0 _ hc).mono ?_
  rintro e w1 ⟨⟨v, l, c, n, rfl, hB, hn1, hn2⟩, hb1⟩
  obtain ⟨oa, cp, rfl, hsl1, h1, h2, h3, h4, _⟩ := hB.form
  clear hc hB
  have hlm : l.length ≤ 1048576 := by omega
  have htm : totG l ≤ 1099511627776 := by omega
  have ba1 := below_a1 w1 (.cells #[.slice oa l.length cp, .int .i64 c] 25)
  have S1 := Blk.new w1 #[.slice oa l.length cp, .int .i64 c] 25
  have hsl2 := hsl1.later ba1
  have hbw1 := below_then hb1 ba1
  clear hsl1
  go_wp2_with fail
  generalize w1.alloc (.cells #[.slice oa l.length cp, .int .i64 c] 25) = W1 at *
  refine (Cut_any _ l c n _ (hE.later hbw1) hsl2 hlm htm).mono ?_
  rintro e w2 ⟨r, rfl, ho, hb2⟩
  obtain ⟨xa, xk, xp, c', rfl⟩ := ho.form
  have ba2 := below_a1 w2 (.cells #[.slice xa xk xp, .int .i64 c'] 25)
  have X2 := Blk.new w2 #[.slice xa xk xp, .int .i64 c'] 25
  have S2 := (S1.later hb2).later ba2
  have hsl3 := (hsl2.later hb2).later ba2
  have ho2 := ho.later ba2
  have hbw2 := below_then (below_then hbw1 hb2) ba2
  clear S1 hsl2 ho
  obtain ⟨p0, p1⟩ := S2.c2
  generalize hcode : (cutR l c n).2 = code at *
  have HC := hideB2 hcode
  clear hcode
  go_wp2_with fail
  generalize w2.alloc (.cells #[.slice xa xk xp, .int .i64 c'] 25) = W2 at *
  refine (sCut_any _ l c n _ hsl3 hlm htm).mono ?_
  rintro e w3 ⟨r3, rfl, ho3, hb3⟩
  rw [HC.out]
  obtain ⟨ya, yk, yp, c3, rfl⟩ := ho3.form
  have ba3 := below_a1 w3 (.cells #[.slice ya yk yp, .int .i64 c3] 25)
  have X3 := (X2.later hb3).later ba3
  have S3 := (S2.later hb3).later ba3
  have hsl4 := (hsl3.later hb3).later ba3
  have ho4 := (ho2.later hb3).later ba3
  have hbw3 := below_then (below_then hbw2 hb3) ba3
  clear X2 S2 hsl3 ho2 ho3 p0 p1 hb1 hb2 hb3 ba1 ba2
  by_cases hc0 : code = 0
  · subst hc0
    obtain ⟨L, t, e1, hqL, hql, hcat, htot, hloose, hm0, hm1⟩ := cut_facts HC.out
    rw [e1] at ho4
    obtain ⟨g, gc, e2, hg, hgb⟩ := ho4
    cases e2
    obtain ⟨hpre1, hpre2⟩ := catB_pre l L t hcat
    obtain ⟨_, _, q1, _, _, _⟩ := storeQ_iff.1 hql
    obtain ⟨_, hc6, qL1, qL2, _, qL4⟩ := storeQ_iff.1 hqL
    obtain ⟨b, rfl, hr⟩ := hsl4.row (by omega)
    have hd0 := hr.dat (l.length - 1) (by omega)
    have hat := totG_at l (l.length - 1) (by omega)
    have hLN : lastN l = (sgAt l (l.length - 1)).1.size := rfl
    rw [hLN] at htot hm1
    have HAB := hideB2 (fun (W : World) (h : SlG W (.slice (some ⟨g, 0, none⟩) L.length xp) L) => AllBytes_any _ L c W h (by omega) (by omega))
    have HUS := hideB2 (fun (W : World) (h : SlG W (.slice (some ⟨g, 0, none⟩) L.length xp) L) => Used_any _ L c W h (by omega) (by omega))
    have HLO := hideB2 (fun (W : World) (h : SlG W (.slice (some ⟨g, 0, none⟩) L.length xp) L) => Loose_any _ L c W h (by omega) (by omega))
    have HSB := hideB2 (fun (W : World) (h : SlG W (.slice (some ⟨b, 0, none⟩) l.length cp) l) => sAllBytes_any _ l c W h hlm htm)
    have HSU := hideB2 (fun (W : World) (h : SlG W (.slice (some ⟨b, 0, none⟩) l.length cp) l) => sUsed_any _ l c W h hlm htm)
    rw [if_pos hqL] at HAB HUS HLO
    rw [if_pos hql] at HSB HSU
    rw [hloose] at HLO
    have HWI := hideB2 (fun (W : World) => lwithin_any (catB L) (catB l) W (by rw [catB_size]; omega) (by rw [catB_size]; omega) hpre1 hpre2)
    generalize (sgAt l (l.length - 1)).1 = d at *
    have hti : (totG L : Int) = (totG l : Int) - ((d.size : Int) - n) := htot
    have htl : (totG l : Int) ≤ 60041 := by omega
    have htl0 : (0 : Int) ≤ (totG l : Int) := by omega
    have hdm : (d.size : Int) ≤ 60041 := by omega
    generalize catB L = bL at *
    generalize catB l = bl at *
    generalize (totG L : Int) = TL at *
    generalize (totG l : Int) = Tl at *
    have HBW := hideB2 hbw3
    have HEE := hideB2 (hE.later hbw3)
    have HG := hideB2 hgb
    have HV := hideB2 hsl4
    have em : (l.length : Int) - 1 = ((l.length - 1 : Nat) : Int) := by omega
    have hi1 : ((l.length - 1 : Nat) : Int) < (l.length : Int) := by omega
    have hwd : IntKind.i64.wrap ((d.size : Int) - n) = (d.size : Int) - n := by rw [IntKind.wrap_i64]; omega
    obtain ⟨p0, p1⟩ := S3.c2
    obtain ⟨x0, x1⟩ := X3.c2
    clear hr hgb hsl4 hbw3 hcat hpre1 hpre2 htot hqL hql e1 qL4 htm hat hloose hE
    go_wp2
    generalize hW3 : w3.alloc (.cells #[.slice ya yk yp, .int .i64 c3] 25) = W3 at *
    clear hW3
    subst hti
    have z0 := fun V => grw_some p0 V
    have z1 := fun V => grw_some p1 V
    have y0 := fun V => grw_some x0 V
    have y1 := fun V => grw_some x1 V
    have hwt : IntKind.i64.wrap (Tl - ((d.size : Int) - n)) = Tl - ((d.size : Int) - n) := by rw [IntKind.wrap_i64]; omega
    have KAB := hideB2 (fun V : Gr W3 => HAB.out _ ((HG.out.later (grw_below W3 V)).sl rfl))
    have KUS := hideB2 (fun V : Gr W3 => HUS.out _ ((HG.out.later (grw_below W3 V)).sl rfl))
    have KLO := hideB2 (fun V : Gr W3 => HLO.out _ ((HG.out.later (grw_below W3 V)).sl rfl))
    have KSB := hideB2 (fun V : Gr W3 => HSB.out _ (HV.out.later (grw_below W3 V)))
    have KSU := hideB2 (fun V : Gr W3 => HSU.out _ (HV.out.later (grw_below W3 V)))
    have KWI := hideB2 (fun V : Gr W3 => HWI.out (grw W3 V))
    have KDI := hideB2 (fun V : Gr W3 => disks_any _ (HEE.out.later (grw_below W3 V)))
    clear HAB HUS HLO HSB HSU HWI HEE HG HV p0 p1 x0 x1 S3 X3
    refine wp_region_grow ?_ ?_ ?_
    · kernel_rfl
    · kernel_rfl
    · intro hne
      repeat (go_big_quiet_step (first | (go_at_call 12; exact grow_call (KAB.out _)) | (go_at_call 19; exact grow_call (KSB.out _)) | (go_at_call 21; exact grow_same (KWI.out _)) | (go_at_call 14; exact grow_call (KUS.out _)) | (go_at_call 31; exact grow_call (KSU.out _)) | (go_at_call 13; exact grow_call (KLO.out _)) | (go_at_call 10; exact grow_call (KDI.out _))))
      refine wpQuiet_nil ?_
      rintro _ ⟨V, rfl⟩
      have hbb := hideB2 (below_then HBW.out (grw_below W3 V))
      go_wp2
      go_ret
      exact ⟨rfl, hbb.out⟩
  · have hnn : (cutR l c n).1 = none := cutR_no (by rw [HC.out]; exact hc0)
    rw [hnn] at ho4
    have er : Value.agg #[.slice xa xk xp, .int .i64 c'] = noStore := ho4
    unfold noStore at er
    cases er
    have hcb : (code != 0) = true := by rw [bne_iff_ne]; exact hc0
    have hcb2 : (code == 0) = false := by rw [beq_eq_false_iff_ne]; exact hc0
    obtain ⟨x0, x1⟩ := X3.c2
    have HBW := hideB2 hbw3
    have HDI := hideB2 (disks_any _ (hE.later hbw3))
    clear X3 S3 hsl4 ho4 hnn hbw3
    go_wp2_with fail
    refine HDI.out.mono ?_
    rintro e w4 ⟨rfl, hb4⟩
    go_wp2
    go_ret
    exact ⟨rfl, below_then HBW.out hb4⟩

theorem fnCuts_tabs {W : World} (h : laidMetH Tryd.prog Rows.fnCutsRow.laid W) : EG W := eg_of_laid h
/-- A world that meets the condition: the settled one, the listed tables laid. -/
theorem fnCuts_laid_met (os : Os) (args : Array Value) : laidMetH Tryd.prog Rows.fnCutsRow.laid (({ (World.holding Tryd.prog os ⟨#[], #[], []⟩) with heap := ((World.holding Tryd.prog os ⟨#[], #[], []⟩).heap.modify 0 (laidRow #[.iface 93 (.agg #[.pointer (some ⟨1, 55, none⟩)])])) } : World).forCall (fun _ _ => 0) ⟨#[], args, []⟩).memory :=
  laidMetH_of_parts (laidMet_nil _ _) (by kernel_rfl)
set_option maxRecDepth 100000 in
theorem fnCuts_lifted (os : Os) (started : os.Started) (H : Type) (enc : TypeId × Value → H) :
    ReturnsInHanded {} Tryd.checked os 6 .any (fun w args => (Rows.fnCutsSpec.pre enc Tryd.prog Tryd.f6 [] false w args ∧ laidMetH Tryd.prog Rows.fnCutsRow.laid w) ∧ sizedMet enc Tryd.prog Tryd.f6 (OpenSpec.ofChange Rows.fnCutsSpec) false w args)
      (Rows.fnCutsSpec.post enc Tryd.prog Tryd.f6 false true false false) := by
  refine returnsInHanded_of_change_and (C := Tryd.checked) (X := fun w _ => laidMetH Tryd.prog Rows.fnCutsRow.laid w) (fun _ _ _ hh h => h.of_heap hh) Tryd.own started (by kernel_rfl) Tryd.func6
    (ChangeSpec.witness_at (enc := enc) (C := Tryd.checked) (os := os) (X := fun w _ => laidMetH Tryd.prog Rows.fnCutsRow.laid w) false ({ (World.holding Tryd.prog os ⟨#[], #[], []⟩) with heap := ((World.holding Tryd.prog os ⟨#[], #[], []⟩).heap.modify 0 (laidRow #[.iface 93 (.agg #[.pointer (some ⟨1, 55, none⟩)])])) } : World) #[.slice none 0 0] 8 rfl (by kernel_rfl) (by kernel_rfl) (by kernel_rfl) (by kernel_rfl) (by kernel_rfl) (fnCuts_laid_met os _)) ?_
  intro W base args ds gs before hval0 hW _ _ hL _
  have hval : ∀ (j : Nat) t v, Tryd.f6.params[j]? = some t → args[j]? = some v → Value.okWide Tryd.prog W .any base t v := hval0
  have hW' := hW
  obtain ⟨p, q, hA0, hV, rfl, hfz, hnd⟩ := hW
  have hA : DataW.TrodAll enc Tryd.prog W 0 (fun _ => true) true Tryd.f6.params.toList args.toList ds p := hA0
  rw [Tryd.params6] at hA hval
  obtain ⟨v0, vs0, d0, ds0, p0, q0, hargs, rfl, rfl, h0, r0⟩ := trodAll_cons hA
  obtain ⟨rfl, rfl, rfl⟩ := trodAll_nil r0
  obtain rfl : args = #[v0] := by cases args; simp_all
  obtain ⟨rfl, rfl⟩ := trodVars_none hV
  obtain ⟨a0, len0, cap0, rfl⟩ := okWide_slice Tryd.underlying22 (hval 0 22 v0 rfl rfl)
  have k0 := h0
  have lt0 : ∀ x ∈ p0, x.block < W.heap.size := by obtain ⟨m, hm⟩ := k0; exact DataW.trod_lt m _ _ _ hm
  obtain ⟨z0, w0⟩ : ∃ zs, IsRow .u8 W a0 len0 cap0 zs := by
    obtain ⟨fuel, hf⟩ := h0
    rcases open_ints Tryd.underlying22 Tryd.underlying5 (by kernel_rfl) hf with ⟨hcs, _⟩ | ⟨x, l, c, zs, hcs, _, hl, hm, hz, _, hcell, hwz⟩
    · simp [Value.cells] at hcs
      obtain ⟨rfl, rfl, rfl⟩ := hcs
      exact ⟨[], .inl ⟨rfl, rfl, rfl, rfl⟩⟩
    · simp [Value.cells] at hcs
      obtain ⟨rfl, rfl, rfl⟩ := hcs
      exact ⟨zs, .inr ⟨_, rfl, hl, hm, by simpa using hz, hcell, hwz⟩⟩
  have tabs := fnCuts_tabs (W := W) hL
  clear hA0 hval0
  refine (fnCuts_walk a0 len0 cap0 z0 W w0 tabs).mono fun e W' ⟨he, bel⟩ => ?_
  subst he
  exact ⟨_, rfl, _, _, _, [], _, [], hW', trodAll_mk1 (shut_bool Tryd.underlying4 _), (trodAll_cons_mk (Below.trod Tryd.laidOut (by kernel_rfl) (of_decide_eq_true (by kernel_rfl)) k0 bel lt0) trodAll_mk0), rfl, bel.frame _, fun h => by cases h⟩
theorem fnCuts_row : Rows.FnCutsSaid :=
  OpenClaim.holds_of_wide 6 Tryd.f6 rfl rfl rfl rfl rfl rfl rfl ⟨rfl, rfl, rfl, rfl, rfl⟩ rfl rfl rfl rfl rfl (by kernel_rfl) Tryd.func6 (by kernel_rfl)
    (of_decide_eq_true (by kernel_rfl)) (by unfold Func.isWrapper; first | (rw [if_pos (by decide +kernel)]; kernel_rfl) | (rw [if_neg (by decide +kernel)]; exact ⟨rfl, rfl⟩))
    (fun os started H enc _ => fnCuts_lifted os started H enc)
/-- THE STATEMENT: the card. -/
theorem fnCuts_holds : Rows.FnCutsCardSaid :=
  Claim7.holds_tied_plain_at .later [] [.handle] true (true, "0f7af4fc17f162a7354c30615f2bfc8ac3c87b5f729e7f6eec1c41bedda9d1ce") true
    fnCuts_row (fun _ h => by cases h) (by kernel_rfl) (fun _ h => by cases h) fnCuts_row_tie rfl ⟨rfl, rfl⟩ (by kernel_rfl) rfl
    (fun f fn hf hfn => by
      obtain rfl : f = 6 := Option.some.inj ((show Tryd.prog.funcNamed "loop.example/g00651/laws.FnCuts" = some 6 by kernel_rfl).symm.trans hf) |>.symm
      obtain rfl : fn = Tryd.f6 := (Option.some.inj (Tryd.func6.symm.trans hfn)).symm
      exact ⟨by kernel_rfl, fun j t ht => by
        rw [Tryd.params6] at ht
        rcases j with _ | j
        · have h3 : t = 22 := by simpa using ht.symm
          subst h3
          exact (show Tryd.prog.wantsStandIn 22 = false by kernel_rfl)
        · simp at ht⟩)
    (by kernel_rfl)
#print axioms fnCuts_holds
end Go.Proofs.YtknpolmenfdheaaDoor
