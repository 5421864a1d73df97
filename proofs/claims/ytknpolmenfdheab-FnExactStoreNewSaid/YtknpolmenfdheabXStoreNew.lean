/-
  FnExactStoreNew: at every number impl.StoreNew answers as spec.StoreNew; its answer owns its memory, behind another call too. No condition.
-/
import Derived.Test.YtknpolmenfdheabRows
import Derived.Test.YtknpolmenfdheabG18
import Derived.Test.YtknpolmenfdheabOpen
namespace Go.Proofs.Ytknpolmenfdheab
set_option linter.unusedVariables false
set_option linter.unusedSimpArgs false
open Go.ChangeShapes Go.WideShapes Go.ChangeAt Go.RowKit
open Go.ChangeMaps (open_string shut_string)
/-- What StoreNew answers, as a list, a room and a word. -/
theorem new_all (r : Int) : ∃ (L : List Sg) (C : Int) (D : Bool), L.length ≤ 1 ∧
    (∀ W : World, Calls Try.prog 13 #[.int .i64 r] W fun e w' => ∃ s, e = .returned (.tuple #[.agg #[s, .int .i64 C], .bool D]) ∧ Ans W w' s L ∧ Below W.heap.size W w') ∧
    (∀ W : World, Calls Try.prog 14 #[.int .i64 r] W fun e w' => ∃ s, e = .returned (.tuple #[.agg #[s, .int .i64 C], .bool D]) ∧ Ans W w' s L ∧ Below W.heap.size W w') := by
  by_cases h : 0 ≤ r ∧ r ≤ 60000
  · refine ⟨[sg0], r, true, by simp, fun W => (sStoreNew_yes r W h.1 h.2).mono ?_, fun W => (StoreNew_yes r W h.1 h.2).mono ?_⟩
    · rintro e w' ⟨g, rfl, hg, hgb, hb⟩
      exact ⟨_, rfl, ⟨hgb.sl rfl, fun g' h' => by injection h' with h'; subst h'; exact hg⟩, hb⟩
    · rintro e w' ⟨g, rfl, hg, hr, hb⟩
      exact ⟨_, rfl, ⟨hr.sl rfl 1, fun g' h' => by injection h' with h'; subst h'; exact hg⟩, hb⟩
  · refine ⟨[], 0, false, by simp, fun W => (sStoreNew_no r W h).mono ?_, fun W => (StoreNew_no r W h).mono ?_⟩
    all_goals
      rintro e w' ⟨rfl, hb⟩
      exact ⟨_, rfl, ⟨.inl ⟨rfl, rfl⟩, fun g' h' => by cases h'⟩, hb⟩
set_option maxRecDepth 10000 in
set_option maxHeartbeats 4000000 in
theorem fnExactStoreNew_walk (r : Int) (w : World) (wr : (Lit.int .i64 r).wf = true) :
    Calls Try.prog 4 #[.int .i64 r] w fun e w' => e = .returned (.bool true) ∧ Below w.heap.size w w' := by
  obtain ⟨L, C, D, hL1, hS, hI⟩ := new_all r
  have hLm : L.length ≤ 1048576 := by omega
  have HS := hideB2 hS
  have HI := hideB2 hI
  clear hS hI
  go_enter Try.func4, Try.ntmps4
  go_wp2_with fail
  refine (HS.out _).mono ?_
  rintro e w3 ⟨vs, rfl, ⟨hs3, hf3⟩, hb3⟩
  obtain ⟨oa, cp, rfl⟩ := hs3.form
  have ha3 := below_a1 w3 (.cells #[.slice oa L.length cp, .int .i64 C] 29)
  have S3 := Blk.new w3 #[.slice oa L.length cp, .int .i64 C] 29
  have hbw3 := below_then hb3 ha3
  have hs3' := hs3.later ha3
  have hxp : ∀ g, (Value.slice oa L.length cp).ownBlock = some g → g < w3.heap.size := fun g h => hs3.own_lt h
  go_wp2_with fail
  generalize w3.alloc (.cells #[.slice oa L.length cp, .int .i64 C] 29) = W3 at *
  refine (HI.out _).mono ?_
  rintro e w5 ⟨vg, rfl, ⟨hg5, hf5⟩, hb5⟩
  obtain ⟨og, cg, rfl⟩ := hg5.form
  have ha5 := below_a1 w5 (.cells #[.slice og L.length cg, .int .i64 C] 29)
  have G5 := Blk.new w5 #[.slice og L.length cg, .int .i64 C] 29
  have S5 := (S3.later hb5).later ha5
  have hs5 := (hs3'.later hb5).later ha5
  have hg5' := hg5.later ha5
  have hbw5 := below_then (below_then hbw3 hb5) ha5
  have hglt : ∀ g, (Value.slice og L.length cg).ownBlock = some g → g < w5.heap.size := fun g h => hg5.own_lt h
  have n3 := S3.lt
  have n5 := hb5.size
  have n0 := hb3.size
  obtain ⟨q0, q1⟩ := S5.c2
  go_wp2_with fail
  generalize w5.alloc (.cells #[.slice og L.length cg, .int .i64 C] 29) = W5 at *
  refine (eqStore_same _ _ L C _ hg5' hs5 hLm).mono ?_
  rintro e w10 ⟨rfl, hb10⟩
  have S10 := S5.later hb10
  have G10 := G5.later hb10
  have hs10 := hs5.later hb10
  have hg10 := hg5'.later hb10
  have hbw10 := below_then hbw5 hb10
  clear q0 q1
  obtain ⟨q0, q1⟩ := G10.c2
  go_wp2_with fail
  refine (markStore_any _ L C _ hg10 hLm).mono ?_
  rintro e w11 ⟨rfl, hm11, hk11⟩
  have S11 := S10.gb hk11 (fun h => by have := hf5 _ h; omega)
  have G11 := G10.gb hk11 (fun h => by have := hglt _ h; omega)
  have hs11 := hs10.gb hk11 (fun g h h' => by have := hxp g h; have := hf5 g h'; omega)
  have hsz10 := hbw10.size
  have hbw11 : Below w.heap.size w w11 := grown_below hbw10 hk11 (fun g h => by have := hf5 g h; omega) hsz10
  clear q0 q1
  obtain ⟨q0, q1⟩ := G11.c2
  go_wp2_with fail
  refine (heldStore_any _ L.length C _ hm11 hLm).mono ?_
  rintro e w12 ⟨rfl, hb12⟩
  have S12 := S11.later hb12
  have G12 := G11.later hb12
  have hs12 := hs11.later hb12
  have hm12 := hm11.later hb12
  have hbw12 := below_then hbw11 hb12
  clear q0 q1
  have hqp : ¬ 1 + 2 * (L.length : Int) < 0 := by omega
  go_wp2_with fail
  refine (HI.out _).mono ?_
  rintro e w14 ⟨vh, rfl, ⟨hh14, hf14⟩, hb14⟩
  obtain ⟨oh, ch, rfl⟩ := hh14.form
  have ha14 := below_a1 w14 (.cells #[.slice oh L.length ch, .int .i64 C] 29)
  have S14 := (S12.later hb14).later ha14
  have G14 := (G12.later hb14).later ha14
  have hs14 := (hs12.later hb14).later ha14
  have hm14 := (hm12.later hb14).later ha14
  have hh14' := hh14.later ha14
  have hbw14 := below_then (below_then hbw12 hb14) ha14
  obtain ⟨u0, u1⟩ := S14.c2
  go_wp2_with fail
  generalize w14.alloc (.cells #[.slice oh L.length ch, .int .i64 C] 29) = W14 at *
  refine (eqStore_same _ _ L C _ hh14' hs14 hLm).mono ?_
  rintro e w15 ⟨rfl, hb15⟩
  clear u0 u1
  obtain ⟨q0, q1⟩ := (G14.later hb15).c2
  go_wp2_with fail
  refine (heldStore_any _ L.length C _ (hm14.later hb15) hLm).mono ?_
  rintro e w16 ⟨rfl, hb16⟩
  go_wp2
  go_ret
  exact ⟨rfl, below_then (below_then hbw14 hb15) hb16⟩

set_option maxRecDepth 100000 in
theorem fnExactStoreNew_lifted (os : Os) (started : os.Started) (H : Type) (enc : TypeId × Value → H) :
    ReturnsInHanded {} Try.checked os 4 .any (Rows.fnExactStoreNewSpec.pre6 enc Try.prog Try.f4 Rows.fnExactStoreNewRow.domain false) (Rows.fnExactStoreNewSpec.post enc Try.prog Try.f4 false true false false) := by
  refine returnsInHanded_of_change (C := Try.checked) Try.own started (by kernel_rfl) Try.func4
    (ChangeSpec.witness6 (enc := enc) (C := Try.checked) false ⟨#[], #[.int .i64 0], []⟩ 8 (by kernel_rfl) (by kernel_rfl) (by kernel_rfl) (by kernel_rfl)) ?_
  intro W base args ds gs before hval0 hW hcnd _
  have hval : ∀ (j : Nat) t v, Try.f4.params[j]? = some t → args[j]? = some v → Value.okWide Try.prog W .any base t v := hval0
  have hW' := hW
  obtain ⟨p, q, hA0, hV, rfl, hfz, hnd⟩ := hW
  have hA : DataW.TrodAll enc Try.prog W 0 (fun _ => true) true Try.f4.params.toList args.toList ds p := hA0
  rw [Try.params4] at hA hval
  obtain ⟨v0, vs0, d0, ds0, p0, q0, hargs, rfl, rfl, h0, r0⟩ := trodAll_cons hA
  obtain ⟨rfl, rfl, rfl⟩ := trodAll_nil r0
  obtain rfl : args = #[v0] := by cases args; simp_all
  obtain ⟨rfl, rfl⟩ := trodVars_none hV
  obtain ⟨a0, rfl, rfl, rfl, w0⟩ := open_int Try.underlying3 (hval 0 3 v0 rfl rfl) h0
  clear hA0 hval0
  simp only [List.append_nil] at hW'
  refine (fnExactStoreNew_walk a0 W w0).mono fun e W' ⟨he, bel⟩ => ?_
  subst he
  exact ⟨_, rfl, _, _, _, [], [], [], hW', trodAll_mk1 (shut_bool Try.underlying4 _), (trodAll_cons_mk (shut_int Try.underlying3 w0) trodAll_mk0), rfl, bel.frame _, fun h => by cases h⟩

/-- THE STATEMENT -/
theorem fnExactStoreNew_holds : Rows.FnExactStoreNewSaid :=
  OpenClaim.holds_of_wide 4 Try.f4 rfl rfl rfl rfl rfl rfl rfl ⟨rfl, rfl, rfl, rfl, rfl⟩ rfl rfl rfl rfl rfl (by kernel_rfl) Try.func4 (by kernel_rfl)
    (of_decide_eq_true (by kernel_rfl)) (by unfold Func.isWrapper; first | (rw [if_pos (by decide +kernel)]; kernel_rfl) | (rw [if_neg (by decide +kernel)]; exact ⟨rfl, rfl⟩))
    (fun os started H enc _ => fnExactStoreNew_lifted os started H enc)
#print axioms fnExactStoreNew_holds
end Go.Proofs.Ytknpolmenfdheab
