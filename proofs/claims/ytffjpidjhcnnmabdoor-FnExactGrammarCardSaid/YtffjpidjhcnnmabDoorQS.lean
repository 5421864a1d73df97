/-
  A region whose first operations leave the world inside a class, whose last ones wait for all of these but one (a straggler that only picks a value): one walk in the order of the text serves every order.
-/
import Derived.Test.YtffjpidjhcnnmabDoorQT
namespace Go.Proofs.YtffjpidjhcnnmabDoor
set_option linter.unusedVariables false
set_option linter.unusedSimpArgs false
open Go
section
variable {P : Program} {md : Region.Mode} {ops : Array Oper} {C : World → Prop}
/-- The operations below n, in whatever order; the one of number s may come up behind a later one. -/
def HdS (P : Program) (md : Region.Mode) (ops : Array Oper) (C : World → Prop) (n s : Nat) (L : Array Bool → Act → Prop) : Nat → Array Bool → Act → Prop
  | 0 => L
  | f + 1 => fun up a => (∃ i, i ∈ Region.ready md ops up) ∧ (∀ i ∈ Region.ready md ops up, n ≤ i → f = 0 ∧ s ∈ Region.ready md ops up ∧ ∀ k, k < n → up.getD k true = false → k = s) ∧
      ∀ i ∈ Region.ready md ops up, i < n → qOp P ops C i (HdS P md ops C n s L f (up.setIfInBounds i true)) a
def WaitsS (md : Region.Mode) (ops : Array Oper) (n s : Nat) : Prop :=
  ∀ up, HeadInv md ops n up → ∀ i, i < n → i ≠ s → up.getD i true = false → ∀ t, n ≤ t → t ∉ Region.ready md ops up
theorem HdS.wp {n s g : Nat} {os : Oper} {L : Array Bool → Act → Prop} {Q : Exit → Act → World → Prop} (hsel : Region.noSelect ops = true) (hos : ops[s]? = some os) (hsn : s < n)
    (hap : ∀ j oj, ops[j]? = some oj → n ≤ j → (∀ e ∈ oj.after, Region.binds md e = true → e.on ≠ s) → os.apart ops oj = true)
    (hpure : ∀ a v, YieldsIn P ops C os v a → Yields P ops os v a) (hQ : ∀ v c a w, Q (.panic c) (a.put os.dst v) w → Q (.panic c) a w)
    (hL : ∀ up a w, C w → L up a → wpAny P md ops Q g up a w) (f : Nat) :
    ∀ up a w, HeadInv md ops n up → C w → HdS P md ops C n s L f up a → wpAny P md ops Q (f + g) up a w := by
  induction f with
  | zero => intro up a w _ hw h; rw [Nat.zero_add]; exact hL up a w hw h
  | succ f ih =>
    intro up a w inv hw ⟨⟨i0, h0⟩, h1, h⟩
    have e : f + 1 + g = (f + g) + 1 := by omega
    rw [e]
    by_cases hex : ∃ t, t ∈ Region.ready md ops up ∧ n ≤ t
    · obtain ⟨t, ht, hnt⟩ := hex
      obtain ⟨rfl, hsr, honly⟩ := h1 t ht hnt
      have hq := h s hsr hsn
      obtain ⟨v, hy, hK⟩ := yieldsIn_of_qOp hos hq
      rw [Nat.zero_add]
      refine wpAny_first hos (fun j o cs b hj => Region.noSelect_spec hsel j o cs b hj) (hQ v) g up a w ?_ hsr (hpure a v hy) (hL _ _ w hw hK)
      intro j oj hj hne hun hno
      rcases Nat.lt_or_ge j n with hjn | hjn
      · exact absurd (honly j hjn hun) hne
      · exact hap j oj hj hjn hno
    · refine ⟨fun hn => ?_, fun i hi => ?_⟩
      · rw [hn] at h0; cases h0
      · have hin : i < n := Nat.lt_of_not_le fun hh => hex ⟨i, hi, hh⟩
        exact wpOp_of_qOp hw (fun a' w' hw' h' => ih _ a' w' (inv.set hi hin) hw' h') (h i hi hin)
theorem HdS.first {n s i : Nat} {oi : Oper} {v : Value} {L : Array Bool → Act → Prop} (hi : ops[i]? = some oi) (hsel : Region.noSelect ops = true) (hw : WaitsS md ops n s) (hin : i < n)
    (hL : ∀ up a, L up a → ∀ j ∈ Region.ready md ops up, n ≤ j) (f : Nat) :
    ∀ up a, HeadInv md ops n up → (∀ j oj, ops[j]? = some oj → j ≠ i → up.getD j true = false → (∀ e ∈ oj.after, Region.binds md e = true → e.on ≠ i) → oi.apart ops oj = true) →
      i ∈ Region.ready md ops up → YieldsIn P ops C oi v a → HdS P md ops C n s L f (up.setIfInBounds i true) (a.put oi.dst v) → HdS P md ops C n s L (f + 1) up a := by
  have hno := Region.noSelect_spec hsel
  have only : ∀ up, HeadInv md ops n up → ∀ t ∈ Region.ready md ops up, n ≤ t → ∀ k, k < n → up.getD k true = false → k = s := by
    intro up inv t ht hnt k hk hu
    by_cases e : k = s
    · exact e
    · exact absurd ht (hw up inv k hk e hu t hnt)
  induction f with
  | zero =>
    intro up a inv _ hr hy H
    refine ⟨⟨i, hr⟩, fun t ht hnt => ?_, fun j hj hjn => ?_⟩
    · have ho := only up inv t ht hnt
      obtain rfl := ho i hin (mem_ready.1 hr).1
      exact ⟨rfl, hr, ho⟩
    · by_cases e : j = i
      · subst e; exact hy.qOp hi H
      · have := hL _ _ H j (ready_mono hj e)
        omega
  | succ f ih =>
    intro up a inv hap hr hy H
    refine ⟨⟨i, hr⟩, fun t ht hnt => ?_, fun j hj hjn => ?_⟩
    · exfalso
      have ho := only up inv t ht hnt
      obtain rfl := ho i hin (mem_ready.1 hr).1
      obtain ⟨⟨i', hi'⟩, c2, _⟩ := H
      have hnset : ∀ x, x ∈ Region.ready md ops (up.setIfInBounds i true) → x ≠ i := by
        rintro x hx rfl
        have h1 := (mem_ready.1 hx).1
        have h2 := (Array.getElem?_eq_some_iff.1 hi).1
        have h3 : x < up.size := by rw [inv.size]; exact h2
        simp [h3] at h1
      have hne := hnset i' hi'
      rcases Nat.lt_or_ge i' n with h1 | h1
      · have hu := (mem_ready.1 hi').1
        rw [getD_set_ne true (Ne.symm hne)] at hu
        exact hne (ho i' h1 hu)
      · exact hnset i (c2 i' hi' h1).2.1 rfl
    · by_cases e : j = i
      · subst e; exact hy.qOp hi H
      · obtain ⟨hju, oj, hoj, hall⟩ := mem_ready.1 hj
        have hnw : ∀ x ∈ oj.after, Region.binds md x = true → x.on ≠ i := by
          intro x hx hb ho
          have h1 := hall x hx hb
          rw [ho, getD_both (mem_ready.1 hr).1] at h1
          cases h1
        refine qOp_mono (fun a' h' => ?_) (qOp_put hoj (hap j oj hoj e hju hnw) (fun cs b => hno i oi cs b hi) (fun cs b => hno j oj cs b hoj) hy (H.2.2 j (ready_mono hj e) hjn))
        refine ih _ a' (inv.set hj hjn) (fun k ok hk hki hun hw => hap k ok hk hki ?_ hw) (ready_mono hr (Ne.symm e)) h'.1 ?_
        · by_cases ejk : j = k
          · subst ejk; exact hju
          · rwa [getD_set_ne true ejk] at hun
        · rw [Array.setIfInBounds_comm _ _ e]; exact h'.2
theorem HdS.text {n s g : Nat} {Lq : Act → Prop} (hsel : Region.noSelect ops = true) (hw : WaitsS md ops n s) (l : List Oper) :
    ∀ k up a, (∀ j, j < l.length → l[j]? = ops[k + j]?) → k + l.length = n → HeadInv md ops n up → Region.lexHead md ops g l.length k up = true → wpQuiet P ops C Lq l a →
      HdS P md ops C n s (fun up' a' => Region.seqB md ops g n up' = true ∧ Lq a') l.length up a := by
  induction l with
  | nil =>
    intro k up a _ hk _ hB h
    obtain rfl : k = n := by simpa using hk
    exact ⟨by simpa [Region.lexHead] using hB, h⟩
  | cons o l ih =>
    intro k up a hl hk inv hB h
    have h0 : ops[k]? = some o := by simpa using (hl 0 (by simp)).symm
    simp only [List.length_cons, Region.lexHead, Bool.and_eq_true] at hB
    obtain ⟨⟨hr0, hf⟩, hB'⟩ := hB
    have hr : k ∈ Region.ready md ops up := by simpa using hr0
    simp only [List.length_cons] at hk
    have hq : qOp P ops C k (wpQuiet P ops C Lq l) a := by unfold qOp; rw [h0]; exact h
    obtain ⟨v, hy, hK⟩ := yieldsIn_of_qOp h0 hq
    refine HdS.first h0 hsel hw (by omega) (fun up' a' hh => seqB_ready hh.1) l.length up a inv (Region.free_spec h0 hf) hr hy ?_
    refine ih (k + 1) _ _ (fun j hj => ?_) (by omega) (inv.set hr (by omega)) hB' hK
    have := hl (j + 1) (by simp; omega)
    rw [show k + 1 + j = k + (j + 1) by omega, ← this]
    simp
/-- Each of the first n but s is waited for by a later one up to n that is not s; each behind n by the next. -/
def lateS (md : Region.Mode) (ops : Array Oper) (n s : Nat) : Bool :=
  ((List.range n).all fun i => i == s || (List.range (n + 1)).any fun j => decide (i < j) && !(j == s) && Region.waitsFor md ops j i) && Region.chainB md ops n
theorem lateS_waits {n s : Nat} (hB : lateS md ops n s = true) : WaitsS md ops n s := by
  simp only [lateS, Bool.and_eq_true] at hB
  obtain ⟨hs, hc⟩ := hB
  intro up inv
  have unl : ∀ {x : Nat}, x < ops.size → up.getD x false ≠ true → up.getD x true = false := fun {x} hx h => getD_in (by rw [inv.size]; exact hx) (by simpa using h)
  have key : ∀ d i, n - i = d → i < n → i ≠ s → up.getD i true = false → n ∉ Region.ready md ops up := by
    intro d
    induction d using Nat.strongRecOn with
    | _ d ih =>
      intro i hd hi hne hu hr
      obtain ⟨_, o, ho, hall⟩ := mem_ready.1 hr
      have h1 := List.all_eq_true.1 hs i (List.mem_range.2 hi)
      have h2 : (i == s) = false := beq_eq_false_iff_ne.2 hne
      simp only [h2, Bool.false_or, List.any_eq_true, Bool.and_eq_true, decide_eq_true_eq, Bool.not_eq_true', beq_eq_false_iff_ne] at h1
      obtain ⟨j, hjm, ⟨hij, hjs⟩, hwj⟩ := h1
      have hjn : j ≤ n := by have := List.mem_range.1 hjm; omega
      obtain ⟨oj, hoj, e, he, hbd, hon⟩ := Region.waitsFor_spec hwj
      by_cases hl : up.getD j false = true
      · have h3 := inv.closed j oj hoj hl e he hbd
        rw [hon, getD_both hu] at h3; cases h3
      · by_cases hjn' : j = n
        · subst hjn'
          obtain rfl : oj = o := Option.some.inj (hoj.symm.trans ho)
          have h3 := hall e he hbd
          rw [hon, getD_both hu] at h3; cases h3
        · exact ih (n - j) (by omega) j rfl (by omega) hjs (unl (Array.getElem?_eq_some_iff.1 hoj).1 hl) hr
  intro i hi hne hu t ht hr
  by_cases htn : t = n
  · subst htn; exact key _ i rfl hi hne hu hr
  · obtain ⟨_, o, ho, hall⟩ := mem_ready.1 hr
    have htl := (Array.getElem?_eq_some_iff.1 ho).1
    have h1 := List.all_eq_true.1 hc t (List.mem_range.2 htl)
    have h2 : ¬ t ≤ n := by omega
    simp only [h2, decide_false, Bool.false_or] at h1
    obtain ⟨o', ho', e, he, hbd, hon⟩ := Region.waitsFor_spec h1
    obtain rfl : o' = o := Option.some.inj (ho'.symm.trans ho)
    have h3 := hall e he hbd
    rw [hon, getD_both (inv.tail (t - 1) (by omega) (by omega))] at h3; cases h3
def apartS (md : Region.Mode) (ops : Array Oper) (n s : Nat) : Bool :=
  (List.range ops.size).all fun j => decide (j < n) || match ops[j]?, ops[s]? with
    | some oj, some os => (oj.after.any fun e => Region.binds md e && e.on == s) || os.apart ops oj
    | _, _ => false
theorem apartS_spec {n s : Nat} {os : Oper} (hos : ops[s]? = some os) (hB : apartS md ops n s = true) (j : Nat) (oj : Oper) (hj : ops[j]? = some oj) (hn : n ≤ j) (hno : ∀ e ∈ oj.after, Region.binds md e = true → e.on ≠ s) : os.apart ops oj = true := by
  unfold apartS at hB
  have h1 := List.all_eq_true.1 hB j (List.mem_range.2 (Array.getElem?_eq_some_iff.1 hj).1)
  have h2 : ¬ j < n := by omega
  rw [hj, hos] at h1
  simp only [h2, decide_false, Bool.false_or, Bool.or_eq_true] at h1
  rcases h1 with h1 | h1
  · exfalso
    obtain ⟨e, he, hb⟩ := Array.any_eq_true'.1 h1
    simp only [Bool.and_eq_true, beq_iff_eq] at hb
    exact hno e he hb.1 hb.2
  · exact h1
def stragB (ops : Array Oper) (n s : Nat) : Bool :=
  Region.noSelect ops && decide (n < ops.size) && decide (s < n) && lateS .any ops n s && apartS .any ops n s && Region.lexHead .any ops (ops.size - n) n 0 (Array.replicate ops.size false)
theorem wp_region_strag {id : Nat} {Q : Exit → Act → World → Prop} {a : Act} {w : World} {l : List Oper} {os : Oper} (C : World → Prop) (n s : Nat) (hm : P.follows .mixedOrders = true) (hB : stragB l.toArray n s = true) (hos : l.toArray[s]? = some os)
    (hpure : ∀ a v, YieldsIn P l.toArray C os v a → Yields P l.toArray os v a) (hQ : ∀ v c a w, Q (.panic c) (a.put os.dst v) w → Q (.panic c) a w) (hC : C { w with drawn := w.drawn + 1 })
    (h : wpQuiet P l.toArray C (fun a' => ∀ w', C w' → wpList P l.toArray Q (l.drop n) a' w') (l.take n) a) : (Code.region id l.toArray true).wp P Q a w := by
  simp only [stragB, Bool.and_eq_true, decide_eq_true_eq] at hB
  obtain ⟨⟨⟨⟨⟨hsel, hn⟩, hsn⟩, hlate⟩, hap⟩, hlex⟩ := hB
  have hnl : n < l.length := by simpa using hn
  have htl : (l.take n).length = n := by simp; omega
  have hdl : (l.drop n).length = l.toArray.size - n := by simp
  have inv0 : HeadInv .any l.toArray n (Array.replicate l.toArray.size false) :=
    ⟨by simp, fun j oj _ hl => (by rw [getD_replicate_false] at hl; cases hl), fun t _ ht => getD_in (by simpa using ht) (getD_replicate_false _ _)⟩
  have H := HdS.text (C := C) (md := .any) (g := l.toArray.size - n) hsel (lateS_waits hlate) (l.take n) 0 (Array.replicate l.toArray.size false) a
    (fun j hj => by rw [htl] at hj; simp [hj]) (by rw [htl]; omega) inv0 (by rw [htl]; exact hlex) h
  have HW := HdS.wp (Q := Q) (g := l.toArray.size - n) hsel hos hsn (apartS_spec hos hap) hpure hQ (fun up a' w' hw' hh => by
    have := wpAny_of_seq (P := P) (md := .any) (Q' := Q) (l.drop n) n up a' w' (fun j => by simp [List.getElem?_drop]) (by rw [hdl]; exact hh.1) (hh.2 w' hw')
    rwa [hdl] at this) _ _ a _ inv0 hC H
  refine wp_region_any hm ?_
  rw [htl, show n + (l.toArray.size - n) = l.toArray.size by omega] at HW
  exact HW
/-- A pick yields the same in every world. -/
theorem pick_pure {o : Oper} {c x y : Operand} (ho : o.op = .pick c x y) (w0 : World) (hC : C w0) (a : Act) (v : Value) (h : YieldsIn P ops C o v a) : Yields P ops o v a := by
  rcases h with ⟨hw, h⟩ | h
  · refine .inl ⟨hw, fun w => ?_⟩
    have h0 := h w0 hC
    unfold Oper.quietAt at h0
    have e : ∀ w, (execOp a.eval o).run P w = ((asBool (a.eval c)).run P w).andThen fun b w₁ => .ok (.value (if b = true then a.eval x else a.eval y)) w₁ := by
      intro w
      unfold execOp
      rw [ho]
      simp [Sem.run_bind, Sem.run_pure, Result.andThen]
    rw [e] at h0 ⊢
    cases hc : a.eval c with
    | bool b =>
      rw [hc] at h0
      have hb : ∀ w, (asBool (.bool b)).run P w = .ok b w := fun w => rfl
      rw [hb] at h0 ⊢
      simp only [Result.andThen] at h0 ⊢
      unfold Oper.quietUpon at h0
      simp at h0
      rw [h0]
    | _ =>
      exfalso
      rw [hc] at h0
      simp [asBool, Oper.quietUpon, Result.andThen] at h0
  · exact .inr h
end
end Go.Proofs.YtffjpidjhcnnmabDoor
