/-
  FnBlocks: a block that comes in is compressed; what does not fill one remains. No condition.
-/
import Derived.Test.YtknpolmenfdheaaRows
import Derived.Test.YtknpolmenfdheaaD24
import Derived.Test.YtknpolmenfdheaaD20
import Derived.Test.YtknpolmenfdheaaE2
import Derived.Test.YtknpolmenfdheaaOpenC
namespace Go.Proofs.Ytknpolmenfdheaa
set_option linter.unusedVariables false
set_option linter.unusedSimpArgs false
open Go.ChangeShapes Go.WideShapes Go.ChangeAt Go.RowKit
open Go.ChangeMaps (open_string shut_string)
theorem absH_one (h : List Nat) (l : List UInt8) : absH h l 1 = comp h (l.take 64) := by
  simp [absH]
theorem inH_small (h : List Nat) (l : List UInt8) (hl : l.length < 64) : inH h l = h := by
  unfold inH; rw [show l.length / 64 = 0 by omega]; rfl
theorem inH_one (h : List Nat) (l : List UInt8) (h1 : 64 ≤ l.length) (h2 : l.length < 128) : inH h l = comp h (l.take 64) := by
  unfold inH; rw [show l.length / 64 = 1 by omega]; exact absH_one h l
theorem inR_ext (s : ByteArray) (n : Nat) (hn : n = 64 * (s.size / 64)) : (⟨(inR s.data.toList).toArray⟩ : ByteArray) = s.extract n s.size := by
  apply bytes_ext
  simp only [ByteArray.data_extract, Array.toList_extract, List.extract]
  rw [List.toList_toArray, inR, len_data, ← hn, List.take_of_length_le]
  rw [List.length_drop, len_data]; exact Nat.le_refl _
set_option maxHeartbeats 1000000 in
theorem sameInts_same (b1 b2 c1 c2 : Nat) (l : List Nat) (w : World) (h1 : RowN w b1 l) (h2 : RowN w b2 l) (hl : l.length = 5) :
    Calls Try.prog 17 #[.slice (some ⟨b1, 0, none⟩) 5 c1, .slice (some ⟨b2, 0, none⟩) 5 c2] w fun e w' => e = .returned (.bool true) ∧ Below w.heap.size w w' := by
  have H1 := hideB2 h1
  have H2 := hideB2 h2
  have HL := hideB2 hl
  clear h1 h2 hl
  go_enter Try.func17, Try.ntmps17
  go_wp2
  go_loopw [5] (fun i wr => ∃ k : Nat, k ≤ 5 ∧ i = .int .i64 k ∧ Below w.heap.size w wr) (fun i _ => 5 - (intOf i).toNat)
  case atStart => exact ⟨0, Nat.zero_le _, rfl, Below.refl _ _⟩
  case round =>
    obtain ⟨k, hk, rfl, hb⟩ := hrel
    by_cases hlt : k < 5
    · have p0 := (H1.out.keep hb).cell k (by rw [HL.out]; exact hlt)
      have q0 := (H2.out.keep hb).cell k (by rw [HL.out]; exact hlt)
      have hki : (k : Int) < 5 := by omega
      have HB := hideB2 hb
      clear hb
      generalize l.getD k 0 = x at *
      go_wp2
      refine wp_region_quiet_lit ?_ ?_ ?_
      · kernel_rfl
      · kernel_rfl
      repeat (go_big_quiet_step (fail))
      refine wpQuiet_nil ?_
      rintro _ ⟨nq, rfl⟩
      go_wp2
      exact ⟨⟨k + 1, by omega, by go_num, below_drewN HB.out nq⟩, by simp [intOf]; omega⟩
    · obtain rfl : k = 5 := by omega
      go_wp2
      go_ret
      exact ⟨rfl, hb⟩
set_option maxRecDepth 10000 in
set_option maxHeartbeats 4000000 in
theorem fnBlocks_walk (a0 : Option Addr) (len0 cap0 : Nat) (z0 : List Int) (w : World) (w0 : IsRow .u8 w a0 len0 cap0 z0) :
    Calls Try.prog 4 #[.slice a0 len0 cap0] w fun e w' => e = .returned (.bool true) ∧ Below w.heap.size w w' := by
  have hc := code_of w0
  clear w0
  go_enter Try.func4, Try.ntmps4
  go_wp2_with fail
  refine (DrawCompress_any a0 len0 cap0 _ hc).mono ?_
  rintro e w1 ⟨⟨g, n, cp, xs, s, rfl, hxl, hn, hr1, hs1, hs2⟩, hb1⟩
  clear hc
  have hnm : n ≤ maxLen := by unfold maxLen; omega
  have hsm : s.size ≤ maxLen := by unfold maxLen; omega
  have he0 : (⟨#[]⟩ : ByteArray).size ≤ maxLen := by decide
  cases hq : shaQ xs (⟨#[]⟩ : ByteArray).size 128 with
  | false =>
    have haq : addQ xs (⟨#[]⟩ : ByteArray).size 128 s.size = false := by unfold addQ; rw [hq]; rfl
    have ha1 := below_a1 w1 (.cells #[.slice (some ⟨g, 0, none⟩) n cp, .string ⟨#[]⟩, .int .i64 128] 27)
    have HNO := hideB2 (ShaAdd_no g n cp xs ⟨#[]⟩ s 128 _ (hr1.keep ha1) hxl hnm he0 hsm haq)
    have hr2 := hr1.keep ha1
    unfold shaV at HNO
    go_wp2_with fail
    refine HNO.out.mono ?_
    rintro e w2 ⟨rfl, hb2⟩
    have ha2 := below_a1 w2 (.cells #[.slice none 0 0, .string ⟨#[]⟩, .int .i64 0] 27)
    have HOK := hideB2 (sShaOk_any g n cp xs ⟨#[]⟩ 128 _ ((hr2.keep hb2).keep ha2) hxl hnm he0)
    unfold shaV at HOK
    have K2 := Blk.new w2 #[.slice none 0 0, .string ⟨#[]⟩, .int .i64 0] 27
    have hbw := below_then (below_then (below_then hb1 ha1) hb2) ha2
    unfold shaZ
    go_wp2_with fail
    refine HOK.out.mono ?_
    rintro e w3 ⟨rfl, hb3⟩
    rw [hq]
    have k0 : w3.cell? ⟨w2.heap.size, 0, none⟩ = some (.slice none 0 0) := (K2.later hb3).cell 0
    clear HNO HOK hr1 hr2 K2 hq haq
    go_wp2_with fail
    refine (sums_any _).mono ?_
    rintro e w4 ⟨rfl, hb4⟩
    go_wp2
    go_ret
    exact ⟨rfl, below_then (below_then hbw hb3) hb4⟩
  | true =>
    obtain ⟨hf, _, _⟩ := shaQ_iff.1 hq
    obtain ⟨hN, h5, rfl⟩ := fiveZ_nat hf
    obtain rfl : n = 5 := by rw [← hxl, nz_len]; exact h5.1
    have hrn := hr1.n
    have ha1 := below_a1 w1 (.cells #[.slice (some ⟨g, 0, none⟩) 5 cp, .string ⟨#[]⟩, .int .i64 128] 27)
    have hrn1 := hrn.keep ha1
    have hADD := ShaAdd_any g cp hN ⟨#[]⟩ s 128 _ hrn1 h5 rfl (by omega)
    have e0 : (⟨#[]⟩ : ByteArray).data.toList ++ s.data.toList = s.data.toList := rfl
    rw [e0] at hADD
    have hlen : s.data.toList.length = s.size := len_data s
    obtain ⟨m, hm, hmI⟩ : ∃ m : Nat, m = 64 * (s.size / 64) ∧ (s.size : Int) / 64 * 64 = (m : Int) := ⟨_, rfl, by omega⟩
    rw [inR_ext s m hm, show ((128 + s.size : Nat) : Int) = 128 + (s.size : Int) by omega] at hADD
    have HADD := hideB2 hADD
    unfold shaV at HADD
    clear hADD hr1 hf e0
    have hmc : m = 0 ∧ s.size = 63 ∨ m = 64 ∧ 64 ≤ s.size := by omega
    have HM := hideB2 hm
    have HMI := hideB2 hmI
    clear hm hmI
    have hHL : inH hN s.data.toList = if m = 64 then comp hN (s.extract 0 64).data.toList else hN := by
      rcases hmc with ⟨rfl, e⟩ | ⟨rfl, e⟩
      · rw [if_neg (by decide)]; exact inH_small _ _ (by rw [hlen]; omega)
      · rw [if_pos rfl, inH_one _ _ (by rw [hlen]; exact e) (by rw [hlen]; omega)]
        congr 1
        simp only [ByteArray.data_extract, Array.toList_extract, List.extract]
        simp
    have hLf : (inH hN s.data.toList).length = 5 := (inH_five h5 _).1
    generalize inH hN s.data.toList = L at *
    go_wp2_with fail
    refine HADD.out.mono ?_
    rintro e w2 ⟨gx, rfl, hgx, hrx, hb2⟩
    have hrn2 := hrn1.keep hb2
    have ha2 := below_a1 w2 (.cells #[.slice (some ⟨gx, 0, none⟩) 5 5, .string (s.extract m s.size), .int .i64 (128 + (s.size : Int))] 27)
    have HOK := hideB2 (sShaOk_any g 5 cp (nz hN) ⟨#[]⟩ 128 _ (hrn2.keep ha2).z (by rw [nz_len]; exact h5.1) hnm he0)
    unfold shaV at HOK
    have K2 := Blk.new w2 #[.slice (some ⟨gx, 0, none⟩) 5 5, .string (s.extract m s.size), .int .i64 (128 + (s.size : Int))] 27
    have hbw := below_then (below_then (below_then hb1 ha1) hb2) ha2
    have hrn3 := hrn2.keep ha2
    have hrx3 := hrx.keep ha2
    clear HADD
    go_wp2_with fail
    generalize w2.alloc (.cells #[.slice (some ⟨gx, 0, none⟩) 5 5, .string (s.extract m s.size), .int .i64 (128 + (s.size : Int))] 27) = W2 at *
    refine HOK.out.mono ?_
    rintro e w3 ⟨rfl, hb3⟩
    rw [hq]
    have K3 := K2.later hb3
    have hrn4 := hrn3.keep hb3
    have hrx4 := hrx3.keep hb3
    have hbw3 := below_then hbw hb3
    clear HOK K2 hrn3 hrx3 hb3 hbw hrn2 hrx hrn1 hrn
    obtain ⟨k0, k1, k2⟩ : _ ∧ _ ∧ _ := ⟨K3.cell 0, K3.cell 1, K3.cell 2⟩
    have hdiv : IntKind.i64.wrap ((s.size : Int) / 64) = (s.size : Int) / 64 := by rw [IntKind.wrap_i64]; omega
    have hmw : IntKind.i64.wrap ((s.size : Int) / 64 * 64) = (m : Int) := by rw [HMI.out, IntKind.wrap_i64]; omega
    have HRN := hideB2 hrn4
    have HH5 := hideB2 h5.1
    have hbf : Five hN := h5
    rcases hmc with ⟨rfl, hsz⟩ | ⟨rfl, hsz⟩
    · rw [if_neg (by decide)] at hHL
      subst hHL
      have hdd : ((s.extract 0 s.size).toList == (s.extract 0 s.size).toList) = true := by simp
      have hszI : (s.size : Int) = 63 := by omega
      clear hq h5 hn hnm hxl hlen
      go_wp2_with (at_builtin; go_must (refine wp_appH rfl _ _ rfl g cp _ HH5.out rfl rfl HRN.out ?_); intro w4 bw cw hbw4 hrw hb4; have K5 := K3.later hb4; have hrx5 := hrx4.keep hb4; have hbw5 := below_then hbw3 hb4; clear k0 k1 k2; obtain ⟨k0, k1, k2⟩ : _ ∧ _ ∧ _ := ⟨K5.cell 0, K5.cell 1, K5.cell 2⟩)
      have z0 := fun V => grw_some k0 V
      have z1 := fun V => grw_some k1 V
      have z2 := fun V => grw_some k2 V
      have HSI := hideB2 (fun V : Gr w4 => sameInts_same gx bw 5 cw L _ (hrx5.keep (grw_below w4 V)) (hrw.keep (grw_below w4 V)) hLf)
      have HSU := hideB2 (fun V : Gr w4 => sums_any (grw w4 V))
      have HBW := hideB2 hbw5
      clear hrx5 hrw hbw5 k0 k1 k2 K5
      go_wp2
      refine wp_region_grow ?_ ?_ ?_
      · kernel_rfl
      · kernel_rfl
      · intro hne
        repeat (go_big_quiet_step (first | (go_at_call 17; exact grow_call (HSI.out _)) | (go_at_call 13; exact grow_call (HSU.out _))))
        refine wpQuiet_nil ?_
        rintro _ ⟨V, rfl⟩
        have hbb := hideB2 (below_then HBW.out (grw_below w4 V))
        go_wp2
        go_ret
        exact ⟨rfl, hbb.out⟩
    · rw [if_pos rfl] at hHL
      have hx64 : (s.extract 0 64).size = 64 := by simp [ByteArray.size_extract]; omega
      have hdd : ((s.extract 64 s.size).toList == (s.extract 64 s.size).toList) = true := by simp
      have hszI : (64 : Int) ≤ (s.size : Int) := by omega
      have HHL := hideB2 hHL
      have HCO := hideB2 (fun (W : World) (h : RowN W g hN) => Compress_any g cp hN (s.extract 0 64) W h hbf hx64)
      clear hq h5 hn hnm hxl hlen hHL hx64
      go_wp2_with (first | (at_builtin; go_must (refine wp_appH rfl _ _ rfl g cp _ HH5.out rfl rfl HRN.out ?_); intro w4 bw cw hbw4 hrw hb4; have K4 := K3.later hb4; have hrx4' := hrx4.keep hb4; have hrn5 := HRN.out.keep hb4; have hbw4' := below_then hbw3 hb4; clear k0 k1 k2) | (go_at_call 16; go_must (refine (HCO.out _ hrn5).mono ?_); rintro e w6 ⟨gc, rfl, hgc, hrc, hb6⟩; have K5 := K4.later hb6; have hrx5 := hrx4'.keep hb6; have hbw5 := below_then hbw4' hb6; rw [← HHL.out] at hrc; obtain ⟨k0, k1, k2⟩ : _ ∧ _ ∧ _ := ⟨K5.cell 0, K5.cell 1, K5.cell 2⟩))
      have z0 := fun V => grw_some k0 V
      have z1 := fun V => grw_some k1 V
      have z2 := fun V => grw_some k2 V
      have HSI := hideB2 (fun V : Gr w6 => sameInts_same gx gc 5 5 L _ (hrx5.keep (grw_below w6 V)) (hrc.keep (grw_below w6 V)) hLf)
      have HSU := hideB2 (fun V : Gr w6 => sums_any (grw w6 V))
      have HBW := hideB2 hbw5
      clear hrx5 hrc hbw5 k0 k1 k2 K5
      go_wp2
      refine wp_region_grow ?_ ?_ ?_
      · kernel_rfl
      · kernel_rfl
      · intro hne
        repeat (go_big_quiet_step (first | (go_at_call 17; exact grow_call (HSI.out _)) | (go_at_call 13; exact grow_call (HSU.out _))))
        refine wpQuiet_nil ?_
        rintro _ ⟨V, rfl⟩
        have hbb := hideB2 (below_then HBW.out (grw_below w6 V))
        go_wp2
        go_ret
        exact ⟨rfl, hbb.out⟩

set_option maxRecDepth 100000 in
theorem fnBlocks_lifted (os : Os) (started : os.Started) (H : Type) (enc : TypeId × Value → H) :
    ReturnsInHanded {} Try.checked os 4 .any (Rows.fnBlocksSpec.pre6 enc Try.prog Try.f4 Rows.fnBlocksRow.domain false) (Rows.fnBlocksSpec.post enc Try.prog Try.f4 false true false false) := by
  refine returnsInHanded_of_change (C := Try.checked) Try.own started (by kernel_rfl) Try.func4
    (ChangeSpec.witness6 (enc := enc) (C := Try.checked) false ⟨#[], #[.slice none 0 0], []⟩ 8 (by kernel_rfl) (by kernel_rfl) (by kernel_rfl) (by kernel_rfl)) ?_
  intro W base args ds gs before hval0 hW hcnd _
  have hval : ∀ (j : Nat) t v, Try.f4.params[j]? = some t → args[j]? = some v → Value.okWide Try.prog W .any base t v := hval0
  have hW' := hW
  obtain ⟨p, q, hA0, hV, rfl, hfz, hnd⟩ := hW
  have hA : DataW.TrodAll enc Try.prog W 0 (fun _ => true) true Try.f4.params.toList args.toList ds p := hA0
  rw [Try.params4] at hA hval
  obtain ⟨v0, vs0, d0, ds0, p0, q0, hargs, rfl, rfl, h0, r0⟩ := trodAll_cons hA
  obtain ⟨rfl, rfl, rfl⟩ := trodAll_nil r0
  obtain rfl : args = #[v0] := by cases args; simp_all
  obtain ⟨rfl, rfl⟩ := trodVars_none hV
  obtain ⟨a0, len0, cap0, rfl⟩ := okWide_slice Try.underlying22 (hval 0 22 v0 rfl rfl)
  have k0 := h0
  have lt0 : ∀ x ∈ p0, x.block < W.heap.size := by obtain ⟨m, hm⟩ := k0; exact DataW.trod_lt m _ _ _ hm
  obtain ⟨z0, w0⟩ : ∃ zs, IsRow .u8 W a0 len0 cap0 zs := by
    obtain ⟨fuel, hf⟩ := h0
    rcases open_ints Try.underlying22 Try.underlying5 (by kernel_rfl) hf with ⟨hcs, _⟩ | ⟨x, l, c, zs, hcs, _, hl, hm, hz, _, hcell, hwz⟩
    · simp [Value.cells] at hcs
      obtain ⟨rfl, rfl, rfl⟩ := hcs
      exact ⟨[], .inl ⟨rfl, rfl, rfl, rfl⟩⟩
    · simp [Value.cells] at hcs
      obtain ⟨rfl, rfl, rfl⟩ := hcs
      exact ⟨zs, .inr ⟨_, rfl, hl, hm, by simpa using hz, hcell, hwz⟩⟩
  clear hA0 hval0
  refine (fnBlocks_walk a0 len0 cap0 z0 W w0).mono fun e W' ⟨he, bel⟩ => ?_
  subst he
  exact ⟨_, rfl, _, _, _, [], _, [], hW', trodAll_mk1 (shut_bool Try.underlying4 _), (trodAll_cons_mk (Below.trod Try.laidOut (by kernel_rfl) (of_decide_eq_true (by kernel_rfl)) k0 bel lt0) trodAll_mk0), rfl, bel.frame _, fun h => by cases h⟩

/-- THE STATEMENT -/
theorem fnBlocks_holds : Rows.FnBlocksSaid :=
  OpenClaim.holds_of_wide 4 Try.f4 rfl rfl rfl rfl rfl rfl rfl ⟨rfl, rfl, rfl, rfl, rfl⟩ rfl rfl rfl rfl rfl (by kernel_rfl) Try.func4 (by kernel_rfl)
    (of_decide_eq_true (by kernel_rfl)) (by unfold Func.isWrapper; first | (rw [if_pos (by decide +kernel)]; kernel_rfl) | (rw [if_neg (by decide +kernel)]; exact ⟨rfl, rfl⟩))
    (fun os started H enc _ => fnBlocks_lifted os started H enc)
#print axioms fnBlocks_holds
end Go.Proofs.Ytknpolmenfdheaa
