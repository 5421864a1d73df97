/-
  FnExactElements: at every argument impl.Elements answers as spec.Elements, in a row of its own. No condition.
-/
import Derived.Test.YtpjjgdhcidngfaqWM2
import Derived.Test.YtpjjgdhcidngfaqOpen
namespace Go.Proofs.Ytpjjgdhcidngfaq
set_option linter.unusedVariables false
set_option linter.unusedSimpArgs false
open Go.ChangeShapes Go.WideShapes Go.ChangeAt Go.RowKit
open Go.ChangeMaps (open_string shut_string)
theorem elG_len : ∀ (l : List UInt8) (q : Nat) (cur : List UInt8), (elG q cur l).length ≤ l.length + 1
  | [], q, cur => by rw [elG_nil]; simp
  | b :: r, 0, cur => by
    rw [elG]; split
    · have := elG_len r 0 []; simp; omega
    · have := elG_len r (if b = 34 then 1 else 0) (cur ++ [b]); simp; omega
  | b :: r, 1, cur => by
    rw [elG]
    have := elG_len r (if b = 34 then 0 else if b = 92 then 2 else 1) (cur ++ [b]); simp; omega
  | b :: r, n + 2, cur => by
    rw [elG]
    · have := elG_len r 1 (cur ++ [b]); simp; omega
    · omega
    · omega
theorem elsB_len (s : ByteArray) : (elsB s).length ≤ 4001 := by
  unfold elsB
  split
  · rename_i h
    have h1 := cleanP_len (elG 0 [] s.data.toList)
    have h2 := elG_len s.data.toList 0 []
    rw [len_data] at h2
    omega
  · simp
set_option maxHeartbeats 2000000 in
theorem fnExactElements_walk (a0 : ByteArray) (w : World) (w0 : a0.size ≤ maxLen) :
    Calls Try.prog 6 #[.string a0] w fun e w' => e = .returned (.bool true) ∧ Below w.heap.size w w' := by
  have w0' := w0
  unfold maxLen at w0'
  by_cases hbig0 : (1048576 : Int) < (a0.size : Int)
  · go_enter Try.func6, Try.ntmps6
    go_wp2
    go_ret
    exact ⟨rfl, Below.refl _ _⟩
  · have hN := elsB_len a0
    have hN1 : (elsB a0).length ≤ 1000000 := by omega
    go_enter Try.func6, Try.ntmps6
    go_wp2_with fail
    refine (sElements_any a0 _ w0).mono ?_
    rintro e W1 ⟨vs, rfl, hs1⟩
    go_wp2_with fail
    refine (Elements_any a0 _ w0).mono ?_
    rintro e W2 ⟨vg, rfl, hg2⟩
    have HE : Hid (∀ W, Calls Try.prog 16 #[.string a0] W fun e w' => ∃ v, e = .returned v ∧ BufS W w' v (elsB a0)) := fun W => Elements_any a0 W w0
    generalize elsB a0 = L at *
    obtain ⟨a1, cs, rfl, rs1⟩ := hs1.rows
    obtain ⟨ag, cg, rfl, rg2⟩ := hg2.rows
    have b1 := hs1.below
    clear hs1
    go_wp2_with fail
    refine (eqStringS_same _ L _ _ _ _ rg2 (rs1.later hg2.below) hN1).mono ?_
    rintro e W3 ⟨rfl, hb3⟩
    have hg3 := hg2.later hb3
    clear hb3 hg2 rg2
    go_wp2_with fail
    refine (markStringS_own _ _ _ L hg3 hN1).mono ?_
    rintro e W4 ⟨rfl, hg4⟩
    clear hg3
    have R4 : ∀ W, Below W4.heap.size W4 W → RowS W ag (marks L.length) := by
      intro W hW
      obtain ⟨a', c', he, hr⟩ := (hg4.later hW).rows
      injection he with e1 e2 e3
      subst e1
      exact hr
    have b4 := hg4.below
    clear hg4
    have HR4 : Hid (∀ W, Below W4.heap.size W4 W → RowS W ag (marks L.length)) := R4
    clear R4
    go_wp2_with fail
    refine (heldStringS_same _ L.length _ _ (HR4.out _ (Below.refl _ _)) hN1).mono ?_
    rintro e W5 ⟨rfl, hb5⟩
    have hq0 : ¬ ((L.length : Int) + 1) < 0 := by omega
    have hqq : (((L.length : Int) + 1) != ((L.length : Int) + 1)) = false := by simp
    go_wp2_with fail
    refine (HE.out _).mono ?_
    rintro e W6 ⟨vh, rfl, hh6⟩
    obtain ⟨ah, ch, rfl, rh6⟩ := hh6.rows
    have b46 : Below W4.heap.size W4 W6 := hb5.trans (hh6.below.mono hb5.size)
    have b16 : Below W1.heap.size W1 W6 := b4.trans (b46.mono b4.size)
    clear hh6 hb5
    go_wp2_with fail
    refine (eqStringS_same _ L _ _ _ _ rh6 (rs1.later b16) hN1).mono ?_
    rintro e W7 ⟨rfl, hb7⟩
    have b47 := b46.trans (hb7.mono b46.size)
    clear rh6 hb7 b46 b16 rs1
    go_wp2_with fail
    refine (heldStringS_same _ L.length _ _ (HR4.out _ b47) hN1).mono ?_
    rintro e W8 ⟨rfl, hb8⟩
    have b48 := b47.trans (hb8.mono b47.size)
    have b18 := b4.trans (b48.mono b4.size)
    have hfin : Hid (Below w.heap.size w W8) := b1.trans (b18.mono b1.size)
    clear b48 b18 b47 hb8 b4 b1
    go_wp2
    go_ret
    exact ⟨rfl, hfin.out⟩

set_option maxRecDepth 100000 in
theorem fnExactElements_lifted (os : Os) (started : os.Started) (H : Type) (enc : TypeId × Value → H) :
    ReturnsInHanded {} Try.checked os 6 .any (Rows.fnExactElementsSpec.pre6 enc Try.prog Try.f6 Rows.fnExactElementsRow.domain false) (Rows.fnExactElementsSpec.post enc Try.prog Try.f6 false true false false) := by
  refine returnsInHanded_of_change (C := Try.checked) Try.own started (by kernel_rfl) Try.func6
    (ChangeSpec.witness6 (enc := enc) (C := Try.checked) false ⟨#[], #[.string ByteArray.empty], []⟩ 8 (by kernel_rfl) (by kernel_rfl) (by kernel_rfl) (by kernel_rfl)) ?_
  intro W base args ds gs before hval0 hW hcnd _
  have hval : ∀ (j : Nat) t v, Try.f6.params[j]? = some t → args[j]? = some v → Value.okWide Try.prog W .any base t v := hval0
  have hW' := hW
  obtain ⟨p, q, hA0, hV, rfl, hfz, hnd⟩ := hW
  have hA : DataW.TrodAll enc Try.prog W 0 (fun _ => true) true Try.f6.params.toList args.toList ds p := hA0
  rw [Try.params6] at hA hval
  obtain ⟨v0, vs0, d0, ds0, p0, q0, hargs, rfl, rfl, h0, r0⟩ := trodAll_cons hA
  obtain ⟨rfl, rfl, rfl⟩ := trodAll_nil r0
  obtain rfl : args = #[v0] := by cases args; simp_all
  obtain ⟨rfl, rfl⟩ := trodVars_none hV
  obtain ⟨a0, rfl, rfl, rfl, w0⟩ := open_string Try.underlying9 (hval 0 9 v0 rfl rfl) h0
  clear hA0 hval0
  simp only [List.append_nil] at hW'
  refine (fnExactElements_walk a0 W w0).mono fun e W' ⟨he, bel⟩ => ?_
  subst he
  exact ⟨_, rfl, _, _, _, [], [], [], hW', trodAll_mk1 (shut_bool Try.underlying4 _), (trodAll_cons_mk (shut_string Try.underlying9 w0) trodAll_mk0), rfl, bel.frame _, fun h => by cases h⟩

/-- THE STATEMENT -/
theorem fnExactElements_holds : Rows.FnExactElementsSaid :=
  OpenClaim.holds_of_wide 6 Try.f6 rfl rfl rfl rfl rfl rfl rfl ⟨rfl, rfl, rfl, rfl, rfl⟩ rfl rfl rfl rfl rfl (by kernel_rfl) Try.func6 (by kernel_rfl)
    (of_decide_eq_true (by kernel_rfl)) (by unfold Func.isWrapper; first | (rw [if_pos (by decide +kernel)]; kernel_rfl) | (rw [if_neg (by decide +kernel)]; exact ⟨rfl, rfl⟩))
    (fun os started H enc _ => fnExactElements_lifted os started H enc)
#print axioms fnExactElements_holds
end Go.Proofs.Ytpjjgdhcidngfaq
