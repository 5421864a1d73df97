/-
  FnLabels: a digest comes back from its label; two payloads with unlike labels are unlike. No condition (a slice of code has at most 2^47 - 4096 bytes, by the form's own reach).
-/
import Derived.Test.YtohdfdbpmmeidaaRows
import Derived.Test.YtohdfdbpmmeidaaD17
import Derived.Test.YtohdfdbpmmeidaaD18
import Derived.Test.YtohdfdbpmmeidaaD20
import Derived.Test.YtohdfdbpmmeidaaD21
import Derived.Test.YtohdfdbpmmeidaaM12
import Derived.Test.YtohdfdbpmmeidaaOpenC
import Derived.SizedLaws
namespace Go.Proofs.Ytohdfdbpmmeidaa
set_option linter.unusedVariables false
set_option linter.unusedSimpArgs false
open Go.ChangeShapes Go.WideShapes Go.ChangeAt Go.RowKit
open Go.ChangeMaps (open_string shut_string)
theorem lab_size (s : ByteArray) : (labB s).size = 37 := by
  unfold labB
  rw [ByteArray.size_append, b32_20 _ (sha1B_size s)]
  rfl
theorem lab_rest (s : ByteArray) : (labB s).extract 5 (labB s).size = b32B (sha1B s) := by
  rw [lab_size]
  have h := b32_20 _ (sha1B_size s)
  unfold labB
  have := ByteArray.extract_append_eq_right (a := lab5) (b := b32B (sha1B s)) (i := 5) (j := 37) rfl (by rw [h]; rfl)
  exact this
theorem lab_lq (s : ByteArray) : lq (labB s) = true := by
  unfold lq labB
  have : (lab5 ++ b32B (sha1B s)).extract 0 5 = lab5 := ByteArray.extract_append_eq_left rfl
  rw [this, ByteArray.toList_eq]
  rfl
theorem lab_back (s : ByteArray) : rlV (labB s) = .tuple #[.string (sha1B s), .bool true] := by
  have h := rb_b32 (s := sha1B s) (by rw [sha1B_size]; omega)
  rw [rlV_yes (lab_size s) (lab_lq s), lab_rest, h.1, h.2]
theorem lab_eq (a b : ByteArray) : ((labB a).toList == (labB b).toList) = ((sha1B a).toList == (sha1B b).toList) := by
  have inj : ∀ x y : ByteArray, x.toList = y.toList → x = y := by
    intro x y h
    rw [ByteArray.toList_eq, ByteArray.toList_eq] at h
    exact ByteArray.ext (Array.toList_inj.mp h)
  rw [Bool.eq_iff_iff, beq_iff_eq, beq_iff_eq]
  constructor
  · intro h
    have e := inj _ _ h
    have e2 := lab_rest a
    rw [e, lab_rest b] at e2
    have h1 := (rb_b32 (s := sha1B a) (by rw [sha1B_size]; omega)).2
    have h2 := (rb_b32 (s := sha1B b) (by rw [sha1B_size]; omega)).2
    rw [← e2, h2] at h1
    rw [h1]
  · intro h
    have e := inj _ _ h
    unfold labB
    rw [e]
set_option maxHeartbeats 4000000 in
theorem fnLabels_walk (a0 : Option Addr) (len0 cap0 : Nat) (z0 : List Int) (w : World) (w0 : IsRow .u8 w a0 len0 cap0 z0) (hcap : cap0 ≤ 140737488351232) :
    Calls Try.prog 6 #[.slice a0 len0 cap0] w fun e w' => e = .returned (.bool true) ∧ Below w.heap.size w w' := by
  have hc := code_of w0
  have hmore := fun w' hb => more1_any a0 len0 cap0 z0 w w' w0 hb hcap
  have HM := hideB2 hmore
  clear w0 hmore hcap
  go_enter Try.func6, Try.ntmps6
  go_wp2_with fail
  refine (DrawLabel_any a0 len0 cap0 _ hc).mono ?_
  rintro e w1 ⟨⟨a, ha, rfl⟩, hb1⟩
  clear hc
  go_wp2_with fail
  refine (HM.out _ hb1).mono ?_
  rintro e w2 ⟨⟨a2, len2, cap2, rfl, hc2⟩, hb2⟩
  clear HM
  have g2 := below_then hb1 hb2
  clear hb1 hb2
  go_wp2_with fail
  refine (DrawLabel_any a2 len2 cap2 _ hc2).mono ?_
  rintro e w3 ⟨⟨b, hb, rfl⟩, hb3⟩
  have g3 := below_then g2 hb3
  clear hc2 g2 hb3
  have HEQ := hideB2 (lab_eq a b)
  have HBK := hideB2 (lab_back a)
  have hlm : (labB a).size ≤ maxLen := by rw [lab_size]; unfold maxLen; omega
  have HS := hideB2 (sha1B_size a)
  have HLA := hideB2 (fun W => Label_any a W (by omega))
  have HLB := hideB2 (fun W => Label_any b W (by omega))
  have HSA := hideB2 (fun W => Sha1_any a W (by omega))
  have HSB := hideB2 (fun W => Sha1_any b W (by omega))
  have HRL := hideB2 (fun W => ReadLabel_any (labB a) W hlm)
  rw [HBK.out] at HRL
  clear HBK hlm ha hb
  generalize labB a = la at *
  generalize labB b = lb at *
  generalize sha1B a = da at *
  generalize sha1B b = db at *
  have hdd : (da.toList == da.toList) = true := by simp
  have hd20 : ((da.size : Int) == 20) = true := by rw [HS.out]; rfl
  go_wp2_with fail
  refine (HLA.out _).mono ?_
  rintro e w4 ⟨rfl, hb4⟩
  have g4 := below_then g3 hb4
  clear g3 hb4
  go_wp2_with fail
  refine (HRL.out _).mono ?_
  rintro e w5 ⟨rfl, hb5⟩
  have g5 := below_then g4 hb5
  clear g4 hb5
  go_wp2_with fail
  refine (HSA.out _).mono ?_
  rintro e w6 ⟨rfl, hb6⟩
  have g6 := below_then g5 hb6
  clear g5 hb6
  go_wp2_with fail
  refine (HLA.out _).mono ?_
  rintro e w7 ⟨rfl, hb7⟩
  have g7 := below_then g6 hb7
  clear g6 hb7
  go_wp2_with fail
  refine (HLB.out _).mono ?_
  rintro e w8 ⟨rfl, hb8⟩
  have g8 := below_then g7 hb8
  clear g7 hb8
  go_wp2_with fail
  refine (HSA.out _).mono ?_
  rintro e w9 ⟨rfl, hb9⟩
  have g9 := below_then g8 hb9
  clear g8 hb9
  go_wp2_with fail
  refine (HSB.out _).mono ?_
  rintro e w10 ⟨rfl, hb10⟩
  have g10 := below_then g9 hb10
  clear g9 hb10
  cases hq : (da.toList == db.toList)
  all_goals
    have hq2 := HEQ.out
    rw [hq] at hq2
    go_wp2_with fail
    refine (sums_any _).mono ?_
    rintro e w11 ⟨rfl, hb11⟩
    go_wp2
    go_ret
    exact ⟨rfl, below_then g10 hb11⟩

set_option maxRecDepth 100000 in
theorem fnLabels_lifted (os : Os) (started : os.Started) (H : Type) (enc : TypeId × Value → H) :
    ReturnsInHanded {} Try.checked os 6 .any (Rows.fnLabelsSpec.pre6 enc Try.prog Try.f6 Rows.fnLabelsRow.domain false) (Rows.fnLabelsSpec.post enc Try.prog Try.f6 false true false false) := by
  refine returnsInHanded_of_change_sized (C := Try.checked) Try.own started (by kernel_rfl) Try.func6
    (ChangeSpec.witness6 (enc := enc) (C := Try.checked) false ⟨#[], #[.slice none 0 0], []⟩ 8 (by kernel_rfl) (by kernel_rfl) (by kernel_rfl) (by kernel_rfl)) ?_
  intro W base args ds gs before hval0 hW hcnd hsz0 _
  have hsz : (DataW.weightsEach Try.prog (Try.f6.params.toList ++ Rows.fnLabelsSpec.plain.varTypes Try.prog) (ds ++ gs)).all (· ≤ reachBytes) = true := hsz0
  have hval : ∀ (j : Nat) t v, Try.f6.params[j]? = some t → args[j]? = some v → Value.okWide Try.prog W .any base t v := hval0
  have hW' := hW
  obtain ⟨p, q, hA0, hV, rfl, hfz, hnd⟩ := hW
  have hA : DataW.TrodAll enc Try.prog W 0 (fun _ => true) true Try.f6.params.toList args.toList ds p := hA0
  rw [Try.params6] at hA hval hsz
  obtain ⟨v0, vs0, d0, ds0, p0, q0, hargs, rfl, rfl, h0, r0⟩ := trodAll_cons hA
  obtain ⟨rfl, rfl, rfl⟩ := trodAll_nil r0
  obtain rfl : args = #[v0] := by cases args; simp_all
  obtain ⟨rfl, rfl⟩ := trodVars_none hV
  obtain ⟨a0, len0, cap0, rfl⟩ := okWide_slice Try.underlying22 (hval 0 22 v0 rfl rfl)
  have k0 := h0
  have lt0 : ∀ x ∈ p0, x.block < W.heap.size := by obtain ⟨m, hm⟩ := k0; exact DataW.trod_lt m _ _ _ hm
  obtain ⟨z0, w0, b0⟩ : ∃ zs, IsRow .u8 W a0 len0 cap0 zs ∧ cap0 ≤ 140737488351232 := by
    obtain ⟨fuel, hf⟩ := h0
    rcases open_ints Try.underlying22 Try.underlying5 (by kernel_rfl) hf with ⟨hcs, _⟩ | ⟨x, l, c, zs, hcs, _, hl, hm, hz, hx, hcell, hwz⟩
    · simp [Value.cells] at hcs
      obtain ⟨rfl, rfl, rfl⟩ := hcs
      exact ⟨[], .inl ⟨rfl, rfl, rfl, rfl⟩, by omega⟩
    · simp [Value.cells] at hcs
      obtain ⟨rfl, rfl, rfl⟩ := hcs
      have hd : d0 = .slice (lits .u8 (zs.take len0)) (lits .u8 (zs.drop len0)) := congrArg Prod.fst hx
      have hrch := sized_slice hsz (j := 0) (t := 22) (e := 5) rfl (by rw [hd]; rfl) Try.underlying22
      rw [show Try.prog.bytesOf 5 = 1 by kernel_rfl] at hrch
      simp only [lits, List.length_map, List.length_take, List.length_drop, reachBytes] at hrch
      have hz' : zs.length = cap0 := by simpa using hz
      exact ⟨zs, .inr ⟨_, rfl, hl, hm, hz', hcell, hwz⟩, by omega⟩
  clear hA0 hval0
  refine (fnLabels_walk a0 len0 cap0 z0 W w0 b0).mono fun e W' ⟨he, bel⟩ => ?_
  subst he
  exact ⟨_, rfl, _, _, _, [], _, [], hW', trodAll_mk1 (shut_bool Try.underlying4 _), (trodAll_cons_mk (Below.trod Try.laidOut (by kernel_rfl) (of_decide_eq_true (by kernel_rfl)) k0 bel lt0) trodAll_mk0), rfl, bel.frame _, fun h => by cases h⟩

/-- THE STATEMENT -/
theorem fnLabels_holds : Rows.FnLabelsSaid :=
  OpenClaim.holds_of_wide 6 Try.f6 rfl rfl rfl rfl rfl rfl rfl ⟨rfl, rfl, rfl, rfl, rfl⟩ rfl rfl rfl rfl rfl (by kernel_rfl) Try.func6 (by kernel_rfl)
    (of_decide_eq_true (by kernel_rfl)) (by unfold Func.isWrapper; first | (rw [if_pos (by decide +kernel)]; kernel_rfl) | (rw [if_neg (by decide +kernel)]; exact ⟨rfl, rfl⟩))
    (fun os started H enc _ => fnLabels_lifted os started H enc)
#print axioms fnLabels_holds
end Go.Proofs.Ytohdfdbpmmeidaa
