/-
  FnStreams: bytes that come in by two have the digest of all at once. No condition.
-/
import Derived.Test.YtknpolmenfdheaaRows
import Derived.Test.YtknpolmenfdheaaD23
import Derived.Test.YtknpolmenfdheaaOpenC
import Derived.Deep.DeepCutAuto
import Derived.Deep.RegionWith
namespace Go.Proofs.Ytknpolmenfdheaa
set_option linter.unusedVariables false
set_option linter.unusedSimpArgs false
open Go.ChangeShapes Go.WideShapes Go.ChangeAt Go.RowKit
open Go.ChangeMaps (open_string shut_string)
set_option maxHeartbeats 8000000 in
theorem fnStreams_walk (a0 : Option Addr) (len0 cap0 : Nat) (z0 : List Int) (w : World) (w0 : IsRow .u8 w a0 len0 cap0 z0) :
    Calls Try.prog 3 #[.slice a0 len0 cap0] w fun e w' => e = .returned (.bool true) ∧ Below w.heap.size w w' := by
  have hc := code_of w0
  clear w0
  go_enter Try.func3, Try.ntmps3
  go_wp2_with fail
  refine (DrawSha1_any a0 len0 cap0 _ hc).mono ?_
  rintro e w1 ⟨⟨s, hs, rfl⟩, hb1⟩
  have hc1 := hc.later hb1
  clear hc
  go_wp2_with fail
  refine (at_any a0 len0 cap0 3 _ hc1 (by omega)).mono ?_
  rintro e w2 ⟨⟨n, hn, rfl⟩, m, rfl⟩
  have hb2 : Below w.heap.size w (w1.drewN m) := hb1.trans ⟨rfl, rfl, rfl, Nat.le_refl _, fun _ _ => rfl⟩
  clear hc1 hb1
  generalize w1.drewN m = W2 at *
  have hq : (n : Int) % ((s.size : Int) + 1) = ((n % (s.size + 1) : Nat) : Int) := by simp
  have hql : n % (s.size + 1) ≤ s.size := by have := Nat.mod_lt n (show 0 < s.size + 1 by omega); omega
  obtain ⟨R1, R2, H1, H2, hA1, hA2, hEn, hOk⟩ := streams_all s (n % (s.size + 1)) hql hs
  have HA1 := hideB2 hA1
  have HA2 := hideB2 hA2
  have HEN := hideB2 hEn
  have HOK := hideB2 hOk
  clear hA1 hA2 hEn hOk
  have HQ := hideB2 hq
  clear hq
  go_wp2
  rw [HQ.out]
  clear HQ
  generalize n % (s.size + 1) = q at *
  have hqI : (q : Int) ≤ (s.size : Int) := by omega
  have hq0 : (0 : Int) ≤ (q : Int) := by omega
  have hqw : IntKind.i64.wrap (q : Int) = (q : Int) := by rw [IntKind.wrap_i64]; omega
  clear hn
  have hbw := hb2.drew
  go_cut [5] (fun c wc => ∃ gx bC, c = .pointer (some ⟨gx, 0, none⟩) ∧ Blk wc gx #[.slice (some ⟨bC, 0, none⟩) 5 5, .string R2, .int .i64 (s.size : Int)] 27 ∧ RowN wc bC H2 ∧ Below w.heap.size w wc)
  case first =>
    go_region_with (first
      | (go_at_call 8; refine (ShaNew_any _).mono ?_; rintro e wA ⟨bA, rfl, hleA, hrA, hbA⟩; unfold shaV)
      | (go_at_call_of 7 (Value.string (s.extract 0 q)); refine (HA1.out _ _ ?_).mono ?_; (first | exact hrA | exact hrA.keep (below_a1 _ _)); rintro e wB ⟨bB, rfl, hleB, hrB, hbB⟩; unfold shaV)
      | (go_at_call_of 7 (Value.string (s.extract q s.size)); refine (HA2.out _ _ ?_).mono ?_; (first | exact hrB | exact hrB.keep (below_a1 _ _)); rintro e wC ⟨bC, rfl, hleC, hrC, hbC⟩; (first | (have KB := Blk.new wB #[.slice none 0 0, .string ⟨#[]⟩, .int .i64 0] 27; have KC := KB.later hbC; have hne := Nat.ne_of_lt (Nat.lt_of_lt_of_le KB.lt hleC)) | (have KB := (Blk.new wA #[.slice none 0 0, .string ⟨#[]⟩, .int .i64 0] 27).later hbB; have KC := KB.later hbC; have hne := Nat.ne_of_lt (Nat.lt_of_lt_of_le KB.lt hleC)) | (have KB := ((Blk.new W2 #[.slice none 0 0, .string ⟨#[]⟩, .int .i64 0] 27).drew.later hbA).later hbB; have KC := KB.later hbC; have hne := Nat.ne_of_lt (Nat.lt_of_lt_of_le KB.lt hleC)) | skip); (have HBC : Below w.heap.size w wC := by first | exact below_then (below_then (below_then hbw hbA) hbB) hbC | exact below_then (below_then (below_then (below_then hbw hbA) hbB) (below_a1 wB _)) hbC | exact below_then (below_then (below_then (below_then hbw hbA) (below_a1 wA _)) hbB) hbC | exact below_then (below_then (below_then (below_then hb2 (below_a1 W2 _)).drew hbA) hbB) hbC); (try (have p0 := KC.cell 0; have p1 := KC.cell 1; have p2 := KC.cell 2; have f0 := KC.free 0; have f1 := KC.free 1; have f2 := KC.free 2)); unfold shaV))
    all_goals
      go_wp2_with fail
      go_meet
    all_goals first
      | exact ⟨_, _, rfl, Blk.new wC _ _, hrC.keep (below_a1 wC _), below_then HBC (below_a1 wC _)⟩
      | exact ⟨_, _, rfl, KC.set3 _ _ _, hrC.set3 hne _ _ _, below_set3 HBC (by have := hbw.size; have := hbA.size; have := hbB.size; simp at *; omega) _ _ _⟩
      | trace_state
  case rest =>
    rename_i w8
    obtain ⟨gx, bC, rfl, KX, hrX, hbX⟩ := hcut
    have p0 := KX.cell 0
    have p1 := KX.cell 1
    have p2 := KX.cell 2
    have hss : ((s.size : Int) == (s.size : Int)) = true := by simp
    have HS1 := hideB2 (fun W => Sha1_any s W (by omega))
    have HS2 := hideB2 (fun W => sSha1_any s W (by omega))
    go_wp2_with fail
    refine (HEN.out bC _ hrX).mono ?_
    rintro e w9 ⟨rfl, hb9⟩
    have K9 := KX.later hb9
    have r9 := hrX.keep hb9
    have g9 := below_then hbX hb9
    generalize sha1B s = D at *
    have hdd : (D.toList == D.toList) = true := by simp
    clear p0 p1 p2 KX hrX hbX hb9
    go_wp2_with fail
    refine (HS1.out _).mono ?_
    rintro e w10 ⟨rfl, hb10⟩
    have K10 := K9.later hb10
    have r10 := r9.keep hb10
    have g10 := below_then g9 hb10
    clear K9 r9 g9 hb10
    have p0 := K10.cell 0
    have p1 := K10.cell 1
    have p2 := K10.cell 2
    go_wp2_with fail
    refine (HS2.out _).mono ?_
    rintro e w11 ⟨rfl, hb11⟩
    have K11 := K10.later hb11
    have r11 := r10.keep hb11
    have g11 := below_then g10 hb11
    clear p0 p1 p2 K10 r10 g10 hb11
    have p0 := K11.cell 0
    have p1 := K11.cell 1
    have p2 := K11.cell 2
    go_wp2_with fail
    refine (HOK.out bC _ r11).mono ?_
    rintro e w12 ⟨rfl, hb12⟩
    have K12 := K11.later hb12
    have g12 := below_then g11 hb12
    clear p0 p1 p2 K11 r11 g11 hb12
    have p2 := K12.cell 2
    go_wp2_with fail
    refine (sums_any _).mono ?_
    rintro e w13 ⟨rfl, hb13⟩
    have g13 := below_then g12 hb13
    go_wp2
    go_ret
    exact ⟨rfl, g13⟩

set_option maxRecDepth 100000 in
theorem fnStreams_lifted (os : Os) (started : os.Started) (H : Type) (enc : TypeId × Value → H) :
    ReturnsInHanded {} Try.checked os 3 .any (Rows.fnStreamsSpec.pre6 enc Try.prog Try.f3 Rows.fnStreamsRow.domain false) (Rows.fnStreamsSpec.post enc Try.prog Try.f3 false true false false) := by
  refine returnsInHanded_of_change (C := Try.checked) Try.own started (by kernel_rfl) Try.func3
    (ChangeSpec.witness6 (enc := enc) (C := Try.checked) false ⟨#[], #[.slice none 0 0], []⟩ 8 (by kernel_rfl) (by kernel_rfl) (by kernel_rfl) (by kernel_rfl)) ?_
  intro W base args ds gs before hval0 hW hcnd _
  have hval : ∀ (j : Nat) t v, Try.f3.params[j]? = some t → args[j]? = some v → Value.okWide Try.prog W .any base t v := hval0
  have hW' := hW
  obtain ⟨p, q, hA0, hV, rfl, hfz, hnd⟩ := hW
  have hA : DataW.TrodAll enc Try.prog W 0 (fun _ => true) true Try.f3.params.toList args.toList ds p := hA0
  rw [Try.params3] at hA hval
  obtain ⟨v0, vs0, d0, ds0, p0, q0, hargs, rfl, rfl, h0, r0⟩ := trodAll_cons hA
  obtain ⟨rfl, rfl, rfl⟩ := trodAll_nil r0
  obtain rfl : args = #[v0] := by cases args; simp_all
  obtain ⟨rfl, rfl⟩ := trodVars_none hV
  obtain ⟨a0, len0, cap0, rfl⟩ := okWide_slice Try.underlying22 (hval 0 22 v0 rfl rfl)
  have k0 := h0
  have lt0 : ∀ x ∈ p0, x.block < W.heap.size := by obtain ⟨m, hm⟩ := k0; exact DataW.trod_lt m _ _ _ hm
  obtain ⟨z0, w0⟩ : ∃ zs, IsRow .u8 W a0 len0 cap0 zs := by
    obtain ⟨fuel, hf⟩ := h0
    rcases open_ints Try.underlying22 Try.underlying5 (by kernel_rfl) hf with ⟨hcs, _⟩ | ⟨x, l, c, zs, hcs, _, hl, hm, hz, _, hcell, hwz⟩
    · simp [Value.cells] at hcs
      obtain ⟨rfl, rfl, rfl⟩ := hcs
      exact ⟨[], .inl ⟨rfl, rfl, rfl, rfl⟩⟩
    · simp [Value.cells] at hcs
      obtain ⟨rfl, rfl, rfl⟩ := hcs
      exact ⟨zs, .inr ⟨_, rfl, hl, hm, by simpa using hz, hcell, hwz⟩⟩
  clear hA0 hval0
  refine (fnStreams_walk a0 len0 cap0 z0 W w0).mono fun e W' ⟨he, bel⟩ => ?_
  subst he
  exact ⟨_, rfl, _, _, _, [], _, [], hW', trodAll_mk1 (shut_bool Try.underlying4 _), (trodAll_cons_mk (Below.trod Try.laidOut (by kernel_rfl) (of_decide_eq_true (by kernel_rfl)) k0 bel lt0) trodAll_mk0), rfl, bel.frame _, fun h => by cases h⟩

/-- THE STATEMENT -/
theorem fnStreams_holds : Rows.FnStreamsSaid :=
  OpenClaim.holds_of_wide 3 Try.f3 rfl rfl rfl rfl rfl rfl rfl ⟨rfl, rfl, rfl, rfl, rfl⟩ rfl rfl rfl rfl rfl (by kernel_rfl) Try.func3 (by kernel_rfl)
    (of_decide_eq_true (by kernel_rfl)) (by unfold Func.isWrapper; first | (rw [if_pos (by decide +kernel)]; kernel_rfl) | (rw [if_neg (by decide +kernel)]; exact ⟨rfl, rfl⟩))
    (fun os started H enc _ => fnStreams_lifted os started H enc)
#print axioms fnStreams_holds
end Go.Proofs.Ytknpolmenfdheaa
