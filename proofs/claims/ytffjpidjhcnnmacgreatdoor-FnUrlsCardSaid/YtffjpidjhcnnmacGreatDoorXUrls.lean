/-
  FnUrls: an address comes back from its text and from its place in the index. No condition on the code; the listed tables hold what the program's text lays (the card ties them).
-/
import Derived.Test.YtffjpidjhcnnmacGreatDoorRows
import Derived.Test.YtffjpidjhcnnmacGreatDoorTie
import Derived.Test.YtffjpidjhcnnmacGreatDoorCards
import Derived.Test.YtffjpidjhcnnmacGreatDoorJ7
import Derived.LaidMore
import Derived.Lay
import Derived.LaidLaws
import Derived.SevenTiedAt
import Derived.Stop.Joined
namespace Go.Proofs.YtffjpidjhcnnmacGreatDoor
set_option linter.unusedVariables false
set_option linter.unusedSimpArgs false
open Go.ChangeShapes Go.WideShapes Go.ChangeAt Go.RowKit
open Go.ChangeMaps (open_string shut_string)
theorem fnUrls_tabs {W : World} (h : laidMetH Tryz.prog Rows.fnUrlsRow.laid W) : Tab10 W := by
  rw [MakeChecks.laidMetH_plain _ _ _ (by kernel_rfl)] at h
  exact dectab_of_laid (by unfold Rows.fnUrlsRow; simp only [List.mem_cons, List.mem_singleton, Prod.mk.injEq]; simp) h
set_option maxRecDepth 100000 in
set_option maxHeartbeats 1000000 in
theorem DrawUrlText_any (a : Option Addr) (len cap : Nat) (w : World) (hc : Code w a len) :
    Calls Tryz.prog 12 #[.slice a len cap] w fun e w' => (∃ (ho pa qu : ByteArray) (po : Int) (hq : Bool), (ho.size ≤ 1000 ∧ pa.size ≤ 1000 ∧ qu.size ≤ 1000) ∧ e = .returned (.agg #[.string ho, .int .i64 po, .string pa, .string qu, .bool hq])) ∧ Below w.heap.size w w' := by
  have hc0 := hc.later (below_a1 w (.cells #[.string ⟨#[]⟩, .int .i64 0, .string ⟨#[]⟩, .string ⟨#[]⟩, .bool false] 34))
  have R0 := Blk.new w #[.string ⟨#[]⟩, .int .i64 0, .string ⟨#[]⟩, .string ⟨#[]⟩, .bool false] 34
  have hb0 := below_a1 w (.cells #[.string ⟨#[]⟩, .int .i64 0, .string ⟨#[]⟩, .string ⟨#[]⟩, .bool false] 34)
  have hsz : (w.alloc (.cells #[.string ⟨#[]⟩, .int .i64 0, .string ⟨#[]⟩, .string ⟨#[]⟩, .bool false] 34)).heap.size = w.heap.size + 1 := by simp
  have HSZ := hideB2 hsz
  clear hc hsz
  go_enter Tryz.func12, Tryz.ntmps12
  go_wp2_with fail
  generalize w.alloc (.cells #[.string ⟨#[]⟩, .int .i64 0, .string ⟨#[]⟩, .string ⟨#[]⟩, .bool false] 34) = W at *
  refine (l1New_any a len cap _ hc0.row hc0.max).mono ?_
  rintro e w1 ⟨rfl, hb1, hd1⟩
  have R1 := R0.later hb1
  go_wp2_with fail
  refine (l7draw_any _ _ hd1).mono ?_
  rintro e w2 ⟨⟨ho, pa, qu, po, hq, hz, rfl⟩, hk2, hd2⟩
  have hsz := HSZ.out
  have R2 := hideB2 (blk_kp R1 hk2 (by omega))
  have HB := hideB2 ((below_then hb0 hb1).trans (hk2.below (B := w.heap.size) (by omega) hb1.size))
  clear hsz hb1 hk2 hd1 hd2 R0 R1 hc0
  obtain ⟨r0, r1, r2, r3, r4⟩ := R2.out.u5
  obtain ⟨f0, f1, f2, f3, f4⟩ := R2.out.f5U
  go_wp2
  refine bodyPost_ret (results_cellS rfl _ _ _ rfl (R2.out.set5U _ _ _ _ _) Tryz.underlying34 Tryz.infoUrl) rfl ⟨⟨ho, pa, qu, po, hq, hz, rfl⟩, ?_⟩
  exact below_set5 HB.out (Nat.le_refl _) _ _ _ _ _
theorem url_no (ho pa qu : ByteArray) (po : Int) (hq : Bool) (h : urlQ ho pa qu po hq = false) : textB ho pa qu po hq = ⟨#[]⟩ ∧ surtB ho pa qu po hq = ⟨#[]⟩ := by
  unfold textB surtB
  rw [h]
  exact ⟨rfl, rfl⟩
theorem url_facts (ho pa qu : ByteArray) (po : Int) (hq : Bool) (h : urlQ ho pa qu po hq = true) : rdO (textB ho pa qu po hq) = true ∧ rdU (textB ho pa qu po hq) = ⟨ho, pa, qu, po, hq⟩ ∧ usO (surtB ho pa qu po hq) = true ∧ usU (surtB ho pa qu po hq) = ⟨ho, pa, qu, po, hq⟩ ∧ (textB ho pa qu po hq).size ≤ 1048576 ∧ (surtB ho pa qu po hq).size ≤ 1048576 := by
  have hu : urQ ⟨ho, pa, qu, po, hq⟩ = true := h
  have e : textB ho pa qu po hq = utxt ho pa qu po hq := by unfold textB; rw [if_pos h]
  obtain ⟨h1, h2⟩ := rd_back hu
  obtain ⟨h3, h4⟩ := us_back hu
  obtain ⟨_, _, h5, _⟩ := suU_parts hu
  have ht := (targQ_iff.1 (urlF hu).txt).2.1
  rw [e]
  change (utxt ho pa qu po hq).size ≤ _ at ht
  change (surtB ho pa qu po hq).size ≤ 200 at h5
  exact ⟨h1, h2, h3, h4, by omega, by omega⟩
set_option maxRecDepth 100000 in
set_option maxHeartbeats 4000000 in
theorem fnUrls_walk (a : Option Addr) (len cap : Nat) (zs : List Int) (w : World) (hz : IsRow .u8 w a len cap zs) (htab : Tab10 w) :
    Calls Tryz.prog 4 #[.slice a len cap] w fun e w' => e = .returned (.bool true) ∧ Below w.heap.size w w' := by
  have hc := code_of hz
  have HT := hideB2 htab
  clear hz htab
  go_enter Tryz.func4, Tryz.ntmps4
  go_wp2_with fail
  refine (DrawUrlText_any a len cap _ hc).mono ?_
  rintro e w1 ⟨⟨ho, pa, qu, po, hq, ⟨z1, z2, z3⟩, rfl⟩, hb1⟩
  clear hc
  have HU := hideB2 (fun W => sUrlOk_any ho pa qu po hq W (by omega) (by omega) (by omega))
  have HX := hideB2 (fun W (h : Tab10 W) => UrlText_any ho pa qu po hq W h (by omega) (by omega) (by omega))
  have HS := hideB2 (fun W (h : Tab10 W) => Surt_any ho pa qu po hq W h (by omega) (by omega) (by omega))
  have A1 := Blk.new w1 #[.string ho, .int .i64 po, .string pa, .string qu, .bool hq] 34
  have hb1 := below_then hb1 (below_a1 w1 (.cells #[.string ho, .int .i64 po, .string pa, .string qu, .bool hq] 34))
  go_wp2_with fail
  generalize w1.alloc (.cells #[.string ho, .int .i64 po, .string pa, .string qu, .bool hq] 34) = W1 at *
  generalize w1.heap.size = g at *
  refine (HU.out _).mono ?_
  rintro e w2 ⟨rfl, hb2⟩
  have A2 := A1.later hb2
  have hb2 := below_then hb1 hb2
  clear hb1 A1 HU
  cases hQ : urlQ ho pa qu po hq
  · obtain ⟨n1, n2⟩ := url_no ho pa qu po hq hQ
    rw [n1] at HX
    rw [n2] at HS
    clear n1 n2 hQ
    obtain ⟨p0, p1, p2, p3, p4⟩ := A2.u5
    have HB := hideB2 hb2
    have HA := hideB2 A2
    have e0 : (([] : List UInt8) == []) = true := rfl
    clear hb2 A2
    go_wp2_with (first
      | (go_at_call 14; refine (HX.out _ (tab_later HT.out HB.out)).mono ?_; rintro e w3 ⟨rfl, hb3⟩; have HB3 := hideB2 (below_then HB.out hb3); obtain ⟨q0, q1, q2, q3, q4⟩ := (HA.out.later hb3).u5; clear hb3)
      | (go_at_call 15; refine (HS.out _ (tab_later HT.out HB3.out)).mono ?_; rintro e w4 ⟨rfl, hb4⟩; have HB4 := hideB2 (below_then HB3.out hb4); clear hb4)
      | (go_at_call 16; refine (places_any _ (tab_later HT.out HB4.out)).mono ?_; rintro e w5 ⟨rfl, hb5⟩))
    go_ret
    exact ⟨rfl, below_then HB4.out hb5⟩
  · obtain ⟨f1, f2, f3, f4, f5, f6⟩ := url_facts ho pa qu po hq hQ
    have HR := hideB2 (fun W (h : Tab10 W) => ReadUrl_any (textB ho pa qu po hq) W f5 h)
    have HN := hideB2 (fun W (h : Tab10 W) => Unsurt_any (surtB ho pa qu po hq) W f6 h)
    rw [f1, f2] at HR
    rw [f3, f4] at HN
    simp only [valU] at HR HN
    clear f1 f2 f3 f4 hQ
    generalize textB ho pa qu po hq = X at *
    generalize surtB ho pa qu po hq = Y at *
    have e2 : (ho.toList == ho.toList) = true := by simp
    have e3 : (pa.toList == pa.toList) = true := by simp
    have e4 : (qu.toList == qu.toList) = true := by simp
    have e5 : (po == po) = true := by simp
    have e6 : (hq == hq) = true := by cases hq <;> rfl
    obtain ⟨p0, p1, p2, p3, p4⟩ := A2.u5
    go_wp2_with fail
    refine (HX.out _ (tab_later HT.out hb2)).mono ?_
    rintro e w3 ⟨rfl, hb3⟩
    have A3 := A2.later hb3
    have hb3 := below_then hb2 hb3
    clear hb2 A2 p0 p1 p2 p3 p4
    go_wp2_with fail
    refine (HR.out _ (tab_later HT.out hb3)).mono ?_
    rintro e w4 ⟨rfl, hb4⟩
    have A4 := (A3.later hb4).later (below_a1 w4 (.cells #[.string ho, .int .i64 po, .string pa, .string qu, .bool hq] 34))
    have B4 := Blk.new w4 #[.string ho, .int .i64 po, .string pa, .string qu, .bool hq] 34
    have hb4 := below_then (below_then hb3 hb4) (below_a1 w4 (.cells #[.string ho, .int .i64 po, .string pa, .string qu, .bool hq] 34))
    clear hb3 A3
    obtain ⟨p0, p1, p2, p3, p4⟩ := A4.u5
    go_wp2_with fail
    generalize w4.alloc (.cells #[.string ho, .int .i64 po, .string pa, .string qu, .bool hq] 34) = W4 at *
    generalize w4.heap.size = g4 at *
    refine (HS.out _ (tab_later HT.out hb4)).mono ?_
    rintro e w5 ⟨rfl, hb5⟩
    have A5 := A4.later hb5
    have B5 := B4.later hb5
    have hb5 := below_then hb4 hb5
    clear hb4 A4 B4 p0 p1 p2 p3 p4
    go_wp2_with fail
    refine (HN.out _ (tab_later HT.out hb5)).mono ?_
    rintro e w6 ⟨rfl, hb6⟩
    have A6 := (A5.later hb6).later (below_a1 w6 (.cells #[.string ho, .int .i64 po, .string pa, .string qu, .bool hq] 34))
    have B6 := (B5.later hb6).later (below_a1 w6 (.cells #[.string ho, .int .i64 po, .string pa, .string qu, .bool hq] 34))
    have C6 := Blk.new w6 #[.string ho, .int .i64 po, .string pa, .string qu, .bool hq] 34
    have HB := hideB2 (below_then (below_then hb5 hb6) (below_a1 w6 (.cells #[.string ho, .int .i64 po, .string pa, .string qu, .bool hq] 34)))
    obtain ⟨p0, p1, p2, p3, p4⟩ := A6.u5
    obtain ⟨q0, q1, q2, q3, q4⟩ := B6.u5
    obtain ⟨r0, r1, r2, r3, r4⟩ := C6.u5
    clear hb5 hb6 A5 B5 A6 B6 C6 HX HS HR HN
    go_wp2_with (go_at_call 16; refine (places_any _ (tab_later HT.out HB.out)).mono ?_; rintro e w7 ⟨rfl, hb7⟩)
    go_ret
    exact ⟨rfl, below_then HB.out hb7⟩
set_option maxRecDepth 100000 in
theorem fnUrls_lifted (os : Os) (started : os.Started) (H : Type) (enc : TypeId × Value → H) :
    ReturnsInHanded {} Tryz.checked os 4 .any (fun w args => (Rows.fnUrlsSpec.pre enc Tryz.prog Tryz.f4 [] false w args ∧ laidMetH Tryz.prog Rows.fnUrlsRow.laid w) ∧ sizedMet enc Tryz.prog Tryz.f4 (OpenSpec.ofChange Rows.fnUrlsSpec) false w args)
      (Rows.fnUrlsSpec.post enc Tryz.prog Tryz.f4 false true false false) := by
  refine returnsInHanded_of_change_and (C := Tryz.checked) (X := fun w _ => laidMetH Tryz.prog Rows.fnUrlsRow.laid w) (fun _ _ _ hh h => h.of_heap hh) Tryz.own started (by kernel_rfl) Tryz.func4
    (ChangeSpec.witness_shaped (enc := enc) (C := Tryz.checked) (os := os) (X := fun w _ => laidMetH Tryz.prog Rows.fnUrlsRow.laid w) false (World.laidAll Tryz.prog os Rows.fnUrlsRow.laid) #[.slice none 0 0] 8 (World.laidAll_os _ _ _) (World.shaped_of_ZipB (by kernel_rfl) (by kernel_rfl)) (by kernel_rfl) (by kernel_rfl) (by kernel_rfl)
      (by rw [MakeChecks.laidMetH_plain _ _ _ (by kernel_rfl)]; exact laidMet_laidAll _ (by kernel_rfl) (by kernel_rfl))) ?_
  intro W base args ds gs before hval0 hW _ _ hL _
  have hval : ∀ (j : Nat) t v, Tryz.f4.params[j]? = some t → args[j]? = some v → Value.okWide Tryz.prog W .any base t v := hval0
  have hW' := hW
  obtain ⟨p, q, hA0, hV, rfl, hfz, hnd⟩ := hW
  have hA : DataW.TrodAll enc Tryz.prog W 0 (fun _ => true) true Tryz.f4.params.toList args.toList ds p := hA0
  rw [Tryz.params4] at hA hval
  obtain ⟨v0, vs0, d0, ds0, p0, q0, hargs, rfl, rfl, h0, r0⟩ := trodAll_cons hA
  obtain ⟨rfl, rfl, rfl⟩ := trodAll_nil r0
  obtain rfl : args = #[v0] := by cases args; simp_all
  obtain ⟨rfl, rfl⟩ := trodVars_none hV
  obtain ⟨a0, len0, cap0, rfl⟩ := okWide_slice Tryz.underlying22 (hval 0 22 v0 rfl rfl)
  have k0 := h0
  have lt0 : ∀ x ∈ p0, x.block < W.heap.size := by obtain ⟨m, hm⟩ := k0; exact DataW.trod_lt m _ _ _ hm
  obtain ⟨z0, w0⟩ : ∃ zs, IsRow .u8 W a0 len0 cap0 zs := by
    obtain ⟨fuel, hf⟩ := h0
    rcases open_ints Tryz.underlying22 Tryz.underlying5 (by kernel_rfl) hf with ⟨hcs, _⟩ | ⟨x, l, c, zs, hcs, _, hl, hm, hz, _, hcell, hwz⟩
    · simp [Value.cells] at hcs
      obtain ⟨rfl, rfl, rfl⟩ := hcs
      exact ⟨[], .inl ⟨rfl, rfl, rfl, rfl⟩⟩
    · simp [Value.cells] at hcs
      obtain ⟨rfl, rfl, rfl⟩ := hcs
      exact ⟨zs, .inr ⟨_, rfl, hl, hm, by simpa using hz, hcell, hwz⟩⟩
  have tabs := fnUrls_tabs (W := W) hL
  clear hA0 hval0
  refine (fnUrls_walk a0 len0 cap0 z0 W w0 tabs).mono fun e W' ⟨he, bel⟩ => ?_
  subst he
  exact ⟨_, rfl, _, _, _, [], _, [], hW', trodAll_mk1 (shut_bool Tryz.underlying4 _), (trodAll_cons_mk (Below.trod Tryz.laidOut (by kernel_rfl) (of_decide_eq_true (by kernel_rfl)) k0 bel lt0) trodAll_mk0), rfl, bel.frame _, fun h => by cases h⟩
theorem fnUrls_row : Rows.FnUrlsSaid :=
  OpenClaim.holds_of_wide 4 Tryz.f4 rfl rfl rfl rfl rfl rfl rfl ⟨rfl, rfl, rfl, rfl, rfl⟩ rfl rfl rfl rfl rfl (by kernel_rfl) Tryz.func4 (by kernel_rfl)
    (of_decide_eq_true (by kernel_rfl)) (by unfold Func.isWrapper; first | (rw [if_pos (by decide +kernel)]; kernel_rfl) | (rw [if_neg (by decide +kernel)]; exact ⟨rfl, rfl⟩))
    (fun os started H enc _ => fnUrls_lifted os started H enc)
/-- THE STATEMENT: the card. -/
theorem fnUrls_holds : Rows.FnUrlsCardSaid :=
  Claim7.holds_tied_plain_at .later [] [.data, .data, .data, .data, .pinned, .pinned] true (true, "fe6a78bb42e7ffdad78bee7831a7adaf2d794fe5e53e293912f3b2cbd5056dd2") true
    fnUrls_row (fun _ h => by cases h) (by kernel_rfl) (fun _ h => by cases h) fnUrls_row_tie rfl ⟨rfl, rfl⟩ (by kernel_rfl) rfl
    (fun f fn hf hfn => by
      obtain rfl : f = 4 := Option.some.inj ((show Tryz.prog.funcNamed "loop.example/g00651/laws.FnUrls" = some 4 by kernel_rfl).symm.trans hf) |>.symm
      obtain rfl : fn = Tryz.f4 := (Option.some.inj (Tryz.func4.symm.trans hfn)).symm
      exact ⟨by kernel_rfl, fun j t ht => by
        rw [Tryz.params4] at ht
        rcases j with _ | j
        · have h3 : t = 22 := by simpa using ht.symm
          subst h3
          exact (show Tryz.prog.wantsStandIn 22 = false by kernel_rfl)
        · simp at ht⟩)
    (by kernel_rfl)
#print axioms fnUrls_holds
end Go.Proofs.YtffjpidjhcnnmacGreatDoor
