/-
  FnCanons: an address in its one form is so again, and is the same address. No condition on the code; the listed tables hold what the program's text lays (the card ties them).
-/
import Derived.Test.YtmhohponikolfaaGreatDoorRows
import Derived.Test.YtmhohponikolfaaGreatDoorTie
import Derived.Test.YtmhohponikolfaaGreatDoorCards
import Derived.Test.YtmhohponikolfaaGreatDoorJ1
import Derived.Test.YtmhohponikolfaaGreatDoorJ6
import Derived.Test.YtmhohponikolfaaGreatDoorJ7
import Derived.LaidMore
import Derived.Lay
import Derived.LaidLaws
import Derived.SevenTiedAt
import Derived.Stop.Joined
namespace Go.Proofs.YtmhohponikolfaaGreatDoor
set_option linter.unusedVariables false
set_option linter.unusedSimpArgs false
open Go.ChangeShapes Go.WideShapes Go.ChangeAt Go.RowKit
open Go.ChangeMaps (open_string shut_string)
theorem can_facts {s : ByteArray} (h : rdO s = true) :
    rdO (canB s) = true ∧ rdU (canB s) = rdU s ∧ canB (canB s) = canB s ∧ (canB s).size ≤ 200 ∧ 7 ≤ (canB s).size ∧ (canB s).extract 0 7 = schB := by
  have hu : urQ (rdU s) = true := by
    unfold rdU
    rw [if_pos h]
    unfold rdO at h
    rw [Bool.and_eq_true] at h
    exact h.2
  have ht : canB s = utxt (rdU s).ho (rdU s).pa (rdU s).qu (rdU s).po (rdU s).hq := by
    unfold canB textB
    rw [if_pos (show urlQ _ _ _ _ _ = true from hu)]
  obtain ⟨h1, h2⟩ := rd_back hu
  have F := urlF hu
  rw [← ht] at h1 h2
  have hz := utxt_size (rdU s).ho (rdU s).pa (rdU s).qu (rdU s).po (rdU s).hq
  have ht2 := (targQ_iff.1 F.txt).2.1
  rw [← ht] at hz ht2
  refine ⟨h1, h2, ?_, ht2, by omega, ?_⟩
  · show textB (rdU (canB s)).ho (rdU (canB s)).pa (rdU (canB s)).qu (rdU (canB s)).po (rdU (canB s)).hq = canB s
    rw [h2]; rfl
  · rw [ht]
    unfold utxt
    rw [bytes_assoc schB, bytes_assoc schB, bytes_assoc schB]
    exact ext_app1 schB _
theorem fnCanons_tabs {W : World} (h : laidMetH Tryz.prog Rows.fnCanonsRow.laid W) : Tab10 W := by
  rw [MakeChecks.laidMetH_plain _ _ _ (by kernel_rfl)] at h
  exact dectab_of_laid (by unfold Rows.fnCanonsRow; simp only [List.mem_cons, List.mem_singleton, Prod.mk.injEq]; simp) h
set_option maxRecDepth 100000 in
set_option maxHeartbeats 4000000 in
theorem fnCanons_walk (a : Option Addr) (len cap : Nat) (zs : List Int) (w : World) (hz : IsRow .u8 w a len cap zs) (htab : Tab10 w) :
    Calls Tryz.prog 4 #[.slice a len cap] w fun e w' => e = .returned (.bool true) ∧ Below w.heap.size w w' := by
  have hc := code_of hz
  have HT := hideB2 htab
  clear hz htab
  go_enter Tryz.func4, Tryz.ntmps4
  go_wp2_with fail
  refine (DrawCanon_any a len cap _ hc).mono ?_
  rintro e w1 ⟨⟨s, hs, rfl⟩, hb1⟩
  clear hc
  have hR := fun W (h : Tab10 W) => ReadUrl_any s W (by omega) h
  have hC := fun W (h : Tab10 W) => Canon_any s W (by omega) h
  have hS := fun W => sCanon_any s W (by omega)
  cases ho : rdO s
  · have HC := hideB2 hC
    have HS := hideB2 hS
    rw [canB_no ho, ho] at HC HS
    clear hR hC hS ho
    go_wp2_with fail
    refine (HC.out _ (tab_later HT.out hb1)).mono ?_
    rintro e w2 ⟨rfl, hb2⟩
    have hb2 := below_then hb1 hb2
    clear hb1
    go_wp2_with fail
    refine (HS.out _).mono ?_
    rintro e w3 ⟨rfl, hb3⟩
    have HB := hideB2 (below_then hb2 hb3)
    clear hb2 hb3
    have hff : (false != false) = false := rfl
    go_wp2_with (go_at_call 17; refine (places_any _ (tab_later HT.out HB.out)).mono ?_; rintro e w4 ⟨rfl, hb4⟩)
    go_ret
    exact ⟨rfl, below_then HB.out hb4⟩
  · obtain ⟨f1, f2, f3, f4, f5, f6⟩ := can_facts ho
    have hR2 := fun W (h : Tab10 W) => ReadUrl_any (canB s) W (by omega) h
    have hC2 := fun W (h : Tab10 W) => Canon_any (canB s) W (by omega) h
    have HC := hideB2 hC
    have HS := hideB2 hS
    have HR := hideB2 hR
    have HC2 := hideB2 hC2
    have HR2 := hideB2 hR2
    rw [ho] at HC HS HR
    rw [f3, f1] at HC2
    rw [f2, f1] at HR2
    clear hR hC hS ho hR2 hC2 f1 f2 f3
    generalize canB s = c at *
    generalize rdU s = u at *
    obtain ⟨ho, pa, qu, po, hq⟩ := u
    simp only [valU] at HR HR2
    have HW := hideB2 (fun W => within_text schB c W (by unfold maxLen; decide) (by unfold maxLen; omega) f5 f6)
    have e1 : (c.toList == c.toList) = true := by simp
    have e2 : (ho.toList == ho.toList) = true := by simp
    have e3 : (pa.toList == pa.toList) = true := by simp
    have e4 : (qu.toList == qu.toList) = true := by simp
    have e5 : (po == po) = true := by simp
    have e6 : (hq == hq) = true := by cases hq <;> rfl
    clear f4 f5 f6
    go_wp2_with fail
    refine (HC.out _ (tab_later HT.out hb1)).mono ?_
    rintro e w2 ⟨rfl, hb2⟩
    have hb2 := below_then hb1 hb2
    clear hb1
    go_wp2_with fail
    refine (HS.out _).mono ?_
    rintro e w3 ⟨rfl, hb3⟩
    have hb3 := below_then hb2 hb3
    clear hb2
    go_wp2_with fail
    refine (HC2.out _ (tab_later HT.out hb3)).mono ?_
    rintro e w4 ⟨rfl, hb4⟩
    have hb4 := below_then hb3 hb4
    clear hb3
    go_wp2_with fail
    refine (HR.out _ (tab_later HT.out hb4)).mono ?_
    rintro e w5 ⟨rfl, hb5⟩
    have hb5 := below_then (below_then hb4 hb5) (below_a1 w5 (.cells #[.string ho, .int .i64 po, .string pa, .string qu, .bool hq] 38))
    have A1 := Blk.new w5 #[.string ho, .int .i64 po, .string pa, .string qu, .bool hq] 38
    clear hb4
    go_wp2_with fail
    refine (HR2.out _ (tab_later HT.out hb5)).mono ?_
    rintro e w6 ⟨rfl, hb6⟩
    have A2 := A1.later hb6
    have hb6 := below_then hb5 hb6
    have A3 := Blk.new w6 #[.string ho, .int .i64 po, .string pa, .string qu, .bool hq] 38
    have A4 := A2.later (below_a1 w6 (.cells #[.string ho, .int .i64 po, .string pa, .string qu, .bool hq] 38))
    have HB := hideB2 (below_then hb6 (below_a1 w6 (.cells #[.string ho, .int .i64 po, .string pa, .string qu, .bool hq] 38)))
    obtain ⟨p0, p1, p2, p3, p4⟩ := A3.u5
    obtain ⟨q0, q1, q2, q3, q4⟩ := A4.u5
    clear hb5 hb6 A1 A2 A3 A4 HC HS HR HC2 HR2
    go_wp2_with (first
      | (go_at_call 19; refine (HW.out _).mono ?_; rintro e w7 ⟨rfl, hb7⟩)
      | (go_at_call 17; refine (places_any _ (tab_later HT.out (below_then HB.out hb7))).mono ?_; rintro e w8 ⟨rfl, hb8⟩))
    go_ret
    exact ⟨rfl, below_then HB.out (below_then hb7 hb8)⟩
set_option maxRecDepth 100000 in
theorem fnCanons_lifted (os : Os) (started : os.Started) (H : Type) (enc : TypeId × Value → H) :
    ReturnsInHanded {} Tryz.checked os 4 .any (fun w args => (Rows.fnCanonsSpec.pre enc Tryz.prog Tryz.f4 [] false w args ∧ laidMetH Tryz.prog Rows.fnCanonsRow.laid w) ∧ sizedMet enc Tryz.prog Tryz.f4 (OpenSpec.ofChange Rows.fnCanonsSpec) false w args)
      (Rows.fnCanonsSpec.post enc Tryz.prog Tryz.f4 false true false false) := by
  refine returnsInHanded_of_change_and (C := Tryz.checked) (X := fun w _ => laidMetH Tryz.prog Rows.fnCanonsRow.laid w) (fun _ _ _ hh h => h.of_heap hh) Tryz.own started (by kernel_rfl) Tryz.func4
    (ChangeSpec.witness_shaped (enc := enc) (C := Tryz.checked) (os := os) (X := fun w _ => laidMetH Tryz.prog Rows.fnCanonsRow.laid w) false (World.laidAll Tryz.prog os Rows.fnCanonsRow.laid) #[.slice none 0 0] 8 (World.laidAll_os _ _ _) (World.shaped_of_ZipB (by kernel_rfl) (by kernel_rfl)) (by kernel_rfl) (by kernel_rfl) (by kernel_rfl)
      (by rw [MakeChecks.laidMetH_plain _ _ _ (by kernel_rfl)]; exact laidMet_laidAll _ (by kernel_rfl) (by kernel_rfl))) ?_
  intro W base args ds gs before hval0 hW _ _ hL _
  have hval : ∀ (j : Nat) t v, Tryz.f4.params[j]? = some t → args[j]? = some v → Value.okWide Tryz.prog W .any base t v := hval0
  have hW' := hW
  obtain ⟨p, q, hA0, hV, rfl, hfz, hnd⟩ := hW
  have hA : DataW.TrodAll enc Tryz.prog W 0 (fun _ => true) true Tryz.f4.params.toList args.toList ds p := hA0
  rw [Tryz.params4] at hA hval
  obtain ⟨v0, vs0, d0, ds0, p0, q0, hargs, rfl, rfl, h0, r0⟩ := trodAll_cons hA
  obtain ⟨rfl, rfl, rfl⟩ := trodAll_nil r0
  obtain rfl : args = #[v0] := by cases args; simp_all
  obtain ⟨rfl, rfl⟩ := trodVars_none hV
  obtain ⟨a0, len0, cap0, rfl⟩ := okWide_slice Tryz.underlying22 (hval 0 22 v0 rfl rfl)
  have k0 := h0
  have lt0 : ∀ x ∈ p0, x.block < W.heap.size := by obtain ⟨m, hm⟩ := k0; exact DataW.trod_lt m _ _ _ hm
  obtain ⟨z0, w0⟩ : ∃ zs, IsRow .u8 W a0 len0 cap0 zs := by
    obtain ⟨fuel, hf⟩ := h0
    rcases open_ints Tryz.underlying22 Tryz.underlying5 (by kernel_rfl) hf with ⟨hcs, _⟩ | ⟨x, l, c, zs, hcs, _, hl, hm, hz, _, hcell, hwz⟩
    · simp [Value.cells] at hcs
      obtain ⟨rfl, rfl, rfl⟩ := hcs
      exact ⟨[], .inl ⟨rfl, rfl, rfl, rfl⟩⟩
    · simp [Value.cells] at hcs
      obtain ⟨rfl, rfl, rfl⟩ := hcs
      exact ⟨zs, .inr ⟨_, rfl, hl, hm, by simpa using hz, hcell, hwz⟩⟩
  have tabs := fnCanons_tabs (W := W) hL
  clear hA0 hval0
  refine (fnCanons_walk a0 len0 cap0 z0 W w0 tabs).mono fun e W' ⟨he, bel⟩ => ?_
  subst he
  exact ⟨_, rfl, _, _, _, [], _, [], hW', trodAll_mk1 (shut_bool Tryz.underlying4 _), (trodAll_cons_mk (Below.trod Tryz.laidOut (by kernel_rfl) (of_decide_eq_true (by kernel_rfl)) k0 bel lt0) trodAll_mk0), rfl, bel.frame _, fun h => by cases h⟩
theorem fnCanons_row : Rows.FnCanonsSaid :=
  OpenClaim.holds_of_wide 4 Tryz.f4 rfl rfl rfl rfl rfl rfl rfl ⟨rfl, rfl, rfl, rfl, rfl⟩ rfl rfl rfl rfl rfl (by kernel_rfl) Tryz.func4 (by kernel_rfl)
    (of_decide_eq_true (by kernel_rfl)) (by unfold Func.isWrapper; first | (rw [if_pos (by decide +kernel)]; kernel_rfl) | (rw [if_neg (by decide +kernel)]; exact ⟨rfl, rfl⟩))
    (fun os started H enc _ => fnCanons_lifted os started H enc)
/-- THE STATEMENT: the card. -/
theorem fnCanons_holds : Rows.FnCanonsCardSaid :=
  Claim7.holds_tied_plain_at .later [] [.data, .data, .data, .data, .pinned, .pinned] true (true, "7ffb68e5162f9d295a049a5d346cb18a3bf8ac4188488a03a7258529e0095d6c") false
    fnCanons_row (fun _ h => by cases h) (by kernel_rfl) (fun _ h => by cases h) fnCanons_row_tie rfl ⟨rfl, rfl⟩ (by kernel_rfl) rfl
    (fun f fn hf hfn => by
      obtain rfl : f = 4 := Option.some.inj ((show Tryz.prog.funcNamed "loop.example/g00651/laws.FnCanons" = some 4 by kernel_rfl).symm.trans hf) |>.symm
      obtain rfl : fn = Tryz.f4 := (Option.some.inj (Tryz.func4.symm.trans hfn)).symm
      exact ⟨by kernel_rfl, fun j t ht => by
        rw [Tryz.params4] at ht
        rcases j with _ | j
        · have h3 : t = 22 := by simpa using ht.symm
          subst h3
          exact (show Tryz.prog.wantsStandIn 22 = false by kernel_rfl)
        · simp at ht⟩)
    (by kernel_rfl)
#print axioms fnCanons_holds
end Go.Proofs.YtmhohponikolfaaGreatDoor
