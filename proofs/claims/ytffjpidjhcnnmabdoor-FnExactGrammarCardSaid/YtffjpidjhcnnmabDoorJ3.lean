/-
  A region that draws its order, whose first operations leave the world inside a class of worlds (they read; their callees may draw, or make memory of their own) and whose last ones wait for all of these (a store): one walk in the order of the text serves every order. Leans on the library's lemmas on 'qOp', 'HeadInv' and 'wpAny_of_seq'. · A region whose first operations leave the world inside a class, whose last ones wait for all of these but one (a straggler that only picks a value): one walk in the order of the text serves every order. · The walks over chapter 2: small functions of the calendar. · The walks over chapter 2: CivilOk. · The walks over chapter 2: impl's SecondsOf, CivilOf, Weekday. · The class of the worlds that have grown out of one: for regions that draw their order and whose callees make memory of their own. · The class of grown worlds (GR), beside the calendar's walks. · The walks over chapter 2: small texts of impl. · The walks over chapter 2: clockText, blankedDay, shortDay of impl. · The walks over chapter 2: what impl reads of a text. · The walks over chapter 2: the parts of a text, as impl reads them. · The walks over chapter 2: the five texts of impl. · What a reader of dates hands back. No Go in sight. · The walks over chapter 2: impl.timeWritten. · The walks over chapter 2: impl.ReadWarcDate, ReadStamp. · Chapter 8: a looser reader; the program's side.
-/
import Derived.StillTail
import Derived.Deep.Quiet
import Derived.BigQuiet
import Derived.Test.YtffjpidjhcnnmabDoorProg
import Derived.Test.YtffjpidjhcnnmabDoorJ0
import Derived.Test.YtffjpidjhcnnmabDoorJ1
import Derived.Deep.QuietTactic
import Derived.Test.YtffjpidjhcnnmabDoorJ2
import Derived.OwnWalk
import Derived.Laws.OwnMore
import Derived.Deep.RegionWith
import Derived.BigRegion
import Derived.Deep.DeepCutAuto
namespace Go.Proofs.YtffjpidjhcnnmabDoor
set_option linter.unusedVariables false
set_option linter.unusedSimpArgs false
open Go
section
variable {P : Program} {md : Region.Mode} {ops : Array Oper} {C : World → Prop}
/-- No operation from n on comes up while one of k0 .. n - 1 has not. -/
def Waits (md : Region.Mode) (ops : Array Oper) (k0 n : Nat) : Prop :=
  ∀ up, HeadInv md ops n up → ∀ i, k0 ≤ i → i < n → up.getD i true = false → ∀ t, n ≤ t → t ∉ Region.ready md ops up
/-- The operations below n, in whatever order; where f of them have come up, L. -/
def Hd (P : Program) (md : Region.Mode) (ops : Array Oper) (C : World → Prop) (n : Nat) (L : Array Bool → Act → Prop) : Nat → Array Bool → Act → Prop
  | 0 => L
  | f + 1 => fun up a => (∃ i, i ∈ Region.ready md ops up) ∧ ∀ i ∈ Region.ready md ops up, i < n ∧ qOp P ops C i (Hd P md ops C n L f (up.setIfInBounds i true)) a
theorem Hd.wp {n g : Nat} {L : Array Bool → Act → Prop} {Q : Exit → Act → World → Prop} (hL : ∀ up a w, C w → L up a → wpAny P md ops Q g up a w) (f : Nat) :
    ∀ up a w, C w → Hd P md ops C n L f up a → wpAny P md ops Q (f + g) up a w := by
  induction f with
  | zero => intro up a w hw h; rw [Nat.zero_add]; exact hL up a w hw h
  | succ f ih =>
    intro up a w hw ⟨⟨i0, h0⟩, h⟩
    have e : f + 1 + g = (f + g) + 1 := by omega
    rw [e]
    refine ⟨fun hn => ?_, fun i hi => wpOp_of_qOp hw (fun a' w' hw' h' => ih _ a' w' hw' h') (h i hi).2⟩
    rw [hn] at h0; cases h0
/-- What may come up now, and yields the same in every world of the class, may be taken first. -/
theorem Hd.first {n i : Nat} {oi : Oper} {v : Value} {L : Array Bool → Act → Prop} (hi : ops[i]? = some oi) (hsel : Region.noSelect ops = true) (k0 : Nat) (hw : Waits md ops k0 n) (hk : k0 ≤ i) (hin : i < n)
    (hL : ∀ up a, L up a → ∀ j ∈ Region.ready md ops up, n ≤ j) (f : Nat) :
    ∀ up a, HeadInv md ops n up → (∀ j oj, ops[j]? = some oj → j ≠ i → up.getD j true = false → (∀ e ∈ oj.after, Region.binds md e = true → e.on ≠ i) → oi.apart ops oj = true) →
      i ∈ Region.ready md ops up → YieldsIn P ops C oi v a → Hd P md ops C n L f (up.setIfInBounds i true) (a.put oi.dst v) → Hd P md ops C n L (f + 1) up a := by
  have hno := Region.noSelect_spec hsel
  induction f with
  | zero =>
    intro up a inv _ hr hy H
    refine ⟨⟨i, hr⟩, fun j hj => ?_⟩
    have hjn : j < n := Nat.lt_of_not_le fun h => hw up inv i hk hin (mem_ready.1 hr).1 j h hj
    refine ⟨hjn, ?_⟩
    by_cases e : j = i
    · subst e; exact hy.qOp hi H
    · have := hL _ _ H j (ready_mono hj e)
      omega
  | succ f ih =>
    intro up a inv hap hr hy H
    refine ⟨⟨i, hr⟩, fun j hj => ?_⟩
    have hjn : j < n := Nat.lt_of_not_le fun h => hw up inv i hk hin (mem_ready.1 hr).1 j h hj
    refine ⟨hjn, ?_⟩
    by_cases e : j = i
    · subst e; exact hy.qOp hi H
    · obtain ⟨hju, oj, hoj, hall⟩ := mem_ready.1 hj
      have hnw : ∀ x ∈ oj.after, Region.binds md x = true → x.on ≠ i := by
        intro x hx hb ho
        have h1 := hall x hx hb
        rw [ho, getD_both (mem_ready.1 hr).1] at h1
        cases h1
      refine qOp_mono (fun a' h' => ?_) (qOp_put hoj (hap j oj hoj e hju hnw) (fun cs b => hno i oi cs b hi) (fun cs b => hno j oj cs b hoj) hy (H.2 j (ready_mono hj e)).2)
      refine ih _ a' (inv.set hj hjn) (fun k ok hk hki hun hw => hap k ok hk hki ?_ hw) (ready_mono hr (Ne.symm e)) h'.1 ?_
      · by_cases ejk : j = k
        · subst ejk; exact hju
        · rwa [getD_set_ne true ejk] at hun
      · rw [Array.setIfInBounds_comm _ _ e]; exact h'.2
theorem Hd.text {n g : Nat} {Lq : Act → Prop} (hsel : Region.noSelect ops = true) (k0 : Nat) (hw : Waits md ops k0 n) (l : List Oper) :
    ∀ k up a, k0 ≤ k → (∀ j, j < l.length → l[j]? = ops[k + j]?) → k + l.length = n → HeadInv md ops n up → Region.lexHead md ops g l.length k up = true → wpQuiet P ops C Lq l a →
      Hd P md ops C n (fun up' a' => Region.seqB md ops g n up' = true ∧ Lq a') l.length up a := by
  induction l with
  | nil =>
    intro k up a _ _ hk _ hB h
    obtain rfl : k = n := by simpa using hk
    exact ⟨by simpa [Region.lexHead] using hB, h⟩
  | cons o l ih =>
    intro k up a hk0 hl hk inv hB h
    have h0 : ops[k]? = some o := by simpa using (hl 0 (by simp)).symm
    simp only [List.length_cons, Region.lexHead, Bool.and_eq_true] at hB
    obtain ⟨⟨hr0, hf⟩, hB'⟩ := hB
    have hr : k ∈ Region.ready md ops up := by simpa using hr0
    simp only [List.length_cons] at hk
    have hq : qOp P ops C k (wpQuiet P ops C Lq l) a := by unfold qOp; rw [h0]; exact h
    obtain ⟨v, hy, hK⟩ := yieldsIn_of_qOp h0 hq
    refine Hd.first h0 hsel k0 hw hk0 (by omega) (fun up' a' hh => seqB_ready hh.1) l.length up a inv (Region.free_spec h0 hf) hr hy ?_
    refine ih (k + 1) _ _ (by omega) (fun j hj => ?_) (by omega) (inv.set hr (by omega)) hB' hK
    have := hl (j + 1) (by simp; omega)
    rw [show k + 1 + j = k + (j + 1) by omega, ← this]
    simp
theorem wp_region_quiet_tail {id : Nat} {Q : Exit → Act → World → Prop} {a : Act} {w : World} {l : List Oper} (C : World → Prop) (n : Nat) (hm : P.follows .mixedOrders = true) (hB : Region.lexTailB .any l.toArray n = true) (hC : C { w with drawn := w.drawn + 1 })
    (h : wpQuiet P l.toArray C (fun a' => ∀ w', C w' → wpList P l.toArray Q (l.drop n) a' w') (l.take n) a) : (Code.region id l.toArray true).wp P Q a w := by
  simp only [Region.lexTailB, Bool.and_eq_true, decide_eq_true_eq] at hB
  obtain ⟨⟨⟨⟨hsel, hn⟩, hs⟩, hc⟩, hlex⟩ := hB
  have hnl : n < l.length := by simpa using hn
  have htl : (l.take n).length = n := by simp; omega
  have hdl : (l.drop n).length = l.toArray.size - n := by simp
  have inv0 : HeadInv .any l.toArray n (Array.replicate l.toArray.size false) :=
    ⟨by simp, fun j oj _ hl => (by rw [getD_replicate_false] at hl; cases hl), fun t _ ht => getD_in (by simpa using ht) (getD_replicate_false _ _)⟩
  have H := Hd.text (C := C) (md := .any) (g := l.toArray.size - n) hsel 0 (fun up inv i _ hin hun t ht => tail_waits hs hc hn inv _ i rfl hin hun t ht) (l.take n) 0 (Array.replicate l.toArray.size false) a (Nat.le_refl _)
    (fun j hj => by rw [htl] at hj; simp [hj]) (by rw [htl]; omega) inv0 (by rw [htl]; exact hlex) h
  have HW := Hd.wp (Q := Q) (g := l.toArray.size - n) (fun up a' w' hw' hh => by
    have := wpAny_of_seq (P := P) (md := .any) (Q' := Q) (l.drop n) n up a' w' (fun j => by simp [List.getElem?_drop]) (by rw [hdl]; exact hh.1) (hh.2 w' hw')
    rwa [hdl] at this) _ _ a _ hC H
  refine wp_region_any hm ?_
  rw [htl, show n + (l.toArray.size - n) = l.toArray.size by omega] at HW
  exact HW
/-- The same, at the class 'w after some draws'. -/
theorem wp_region_draws_tail {id : Nat} {Q : Exit → Act → World → Prop} {a : Act} {w : World} {l : List Oper} (n : Nat) (hm : P.follows .mixedOrders = true) (hB : Region.lexTailB .any l.toArray n = true)
    (h : wpQuiet P l.toArray (fun w' => ∃ m, w' = w.drewN m) (fun a' => ∀ w', (∃ m, w' = w.drewN m) → wpList P l.toArray Q (l.drop n) a' w') (l.take n) a) : (Code.region id l.toArray true).wp P Q a w :=
  wp_region_quiet_tail (fun w' => ∃ m, w' = w.drewN m) n hm hB ⟨1, rfl⟩ h
/-- Each of k0 .. n - 1 is waited for by a later one up to n, each behind n by the next. -/
def lateB (md : Region.Mode) (ops : Array Oper) (k0 n : Nat) : Bool :=
  ((List.range n).all fun i => decide (i < k0) || (List.range (n + 1)).any fun j => decide (i < j) && Region.waitsFor md ops j i) && Region.chainB md ops n
theorem late_waits {k0 n : Nat} (hB : lateB md ops k0 n = true) : Waits md ops k0 n := by
  simp only [lateB, Bool.and_eq_true] at hB
  obtain ⟨hs, hc⟩ := hB
  intro up inv
  have unl : ∀ {x : Nat}, x < ops.size → up.getD x false ≠ true → up.getD x true = false := fun {x} hx h => getD_in (by rw [inv.size]; exact hx) (by simpa using h)
  have key : ∀ d i, n - i = d → k0 ≤ i → i < n → up.getD i true = false → n ∉ Region.ready md ops up := by
    intro d
    induction d using Nat.strongRecOn with
    | _ d ih =>
      intro i hd hk hi hu hr
      obtain ⟨_, o, ho, hall⟩ := mem_ready.1 hr
      have h1 := List.all_eq_true.1 hs i (List.mem_range.2 hi)
      have h2 : ¬ i < k0 := by omega
      simp only [h2, decide_false, Bool.false_or, List.any_eq_true, Bool.and_eq_true, decide_eq_true_eq] at h1
      obtain ⟨j, hjm, hij, hwj⟩ := h1
      have hjn : j ≤ n := by have := List.mem_range.1 hjm; omega
      obtain ⟨oj, hoj, e, he, hbd, hon⟩ := Region.waitsFor_spec hwj
      by_cases hl : up.getD j false = true
      · have h3 := inv.closed j oj hoj hl e he hbd
        rw [hon, getD_both hu] at h3; cases h3
      · by_cases hjn' : j = n
        · subst hjn'
          obtain rfl : oj = o := Option.some.inj (hoj.symm.trans ho)
          have h3 := hall e he hbd
          rw [hon, getD_both hu] at h3; cases h3
        · exact ih (n - j) (by omega) j rfl (by omega) (by omega) (unl (Array.getElem?_eq_some_iff.1 hoj).1 hl) hr
  intro i hk hi hu t ht hr
  by_cases htn : t = n
  · subst htn; exact key _ i rfl hk hi hu hr
  · obtain ⟨_, o, ho, hall⟩ := mem_ready.1 hr
    have htl := (Array.getElem?_eq_some_iff.1 ho).1
    have h1 := List.all_eq_true.1 hc t (List.mem_range.2 htl)
    have h2 : ¬ t ≤ n := by omega
    simp only [h2, decide_false, Bool.false_or] at h1
    obtain ⟨o', ho', e, he, hbd, hon⟩ := Region.waitsFor_spec h1
    obtain rfl : o' = o := Option.some.inj (ho'.symm.trans ho)
    have h3 := hall e he hbd
    rw [hon, getD_both (inv.tail (t - 1) (by omega) (by omega))] at h3; cases h3
/-- A first operation that yields the same in every world is taken first; then as above. -/
def leadB (ops : Array Oper) (n : Nat) : Bool :=
  Region.noSelect ops && decide (0 < n) && decide (n < ops.size) && lateB .any ops 1 n && (Region.ready .any ops (Array.replicate ops.size false)).contains 0 && Region.free .any ops (Array.replicate ops.size false) 0 && Region.lexHead .any ops (ops.size - n) (n - 1) 1 ((Array.replicate ops.size false).setIfInBounds 0 true)
theorem wp_region_lead_tail {id : Nat} {Q : Exit → Act → World → Prop} {a : Act} {w : World} {o0 : Oper} {l : List Oper} (C : World → Prop) (n : Nat) (v0 : Value) (hm : P.follows .mixedOrders = true) (hB : leadB (o0 :: l).toArray (n + 1) = true)
    (hQ : ∀ c a w, Q (.panic c) (a.put o0.dst v0) w → Q (.panic c) a w) (hy : Yields P (o0 :: l).toArray o0 v0 a) (hC : C { w with drawn := w.drawn + 1 })
    (h : wpQuiet P (o0 :: l).toArray C (fun a' => ∀ w', C w' → wpList P (o0 :: l).toArray Q (l.drop n) a' w') (l.take n) (a.put o0.dst v0)) : (Code.region id (o0 :: l).toArray true).wp P Q a w := by
  simp only [leadB, Bool.and_eq_true, decide_eq_true_eq] at hB
  obtain ⟨⟨⟨⟨⟨⟨hsel, _⟩, hn⟩, hlate⟩, hr⟩, hf⟩, hlex⟩ := hB
  have hsz : (o0 :: l).toArray.size = l.length + 1 := by simp
  have hnl : n < l.length := by rw [hsz] at hn; omega
  have htl : (l.take n).length = n := by rw [List.length_take]; omega
  have hdl : (l.drop n).length = (o0 :: l).toArray.size - (n + 1) := by rw [List.length_drop, hsz]; omega
  have inv0 : HeadInv .any (o0 :: l).toArray (n + 1) (Array.replicate (o0 :: l).toArray.size false) :=
    ⟨by simp, fun j oj _ hl => (by rw [getD_replicate_false] at hl; cases hl), fun t _ ht => getD_in (by simpa using ht) (getD_replicate_false _ _)⟩
  have hr0 : 0 ∈ Region.ready .any (o0 :: l).toArray (Array.replicate (o0 :: l).toArray.size false) := by simpa using hr
  have inv1 := inv0.set hr0 (by omega)
  have H := Hd.text (C := C) (md := .any) (g := (o0 :: l).toArray.size - (n + 1)) hsel 1 (late_waits hlate) (l.take n) 1 _ (a.put o0.dst v0) (Nat.le_refl _)
    (fun j hj => by rw [htl] at hj; rw [List.getElem?_take, if_pos hj, show 1 + j = j + 1 by omega]; simp) (by rw [htl]; omega) inv1 (by rw [htl]; exact hlex) h
  have HW := Hd.wp (Q := Q) (g := (o0 :: l).toArray.size - (n + 1)) (fun up a' w' hw' hh => by
    have := wpAny_of_seq (P := P) (md := .any) (Q' := Q) (l.drop n) (n + 1) up a' w' (fun j => by rw [List.getElem?_drop, show n + 1 + j = (n + j) + 1 by omega]; simp) (by rw [hdl]; exact hh.1) (hh.2 w' hw')
    rwa [hdl] at this) _ _ (a.put o0.dst v0) _ hC H
  refine wp_region_any hm ?_
  have e : (o0 :: l).toArray.size = ((l.take n).length + ((o0 :: l).toArray.size - (n + 1))) + 1 := by rw [htl, hsz]; omega
  have T := wpAny_take (P := P) (md := .any) (i := 0) (oi := o0) (v := v0) (fuel := (l.take n).length + ((o0 :: l).toArray.size - (n + 1))) (by simp) hsel hf hr hQ hy HW
  rw [← e] at T
  exact T
/-- The same, at the class 'w after some draws'. -/
theorem wp_region_lead_draws {id : Nat} {Q : Exit → Act → World → Prop} {a : Act} {w : World} {o0 : Oper} {l : List Oper} (n : Nat) (v0 : Value) (hm : P.follows .mixedOrders = true) (hB : leadB (o0 :: l).toArray (n + 1) = true)
    (hQ : ∀ c a w, Q (.panic c) (a.put o0.dst v0) w → Q (.panic c) a w) (hy : Yields P (o0 :: l).toArray o0 v0 a)
    (h : wpQuiet P (o0 :: l).toArray (fun w' => ∃ m, w' = w.drewN m) (fun a' => ∀ w', (∃ m, w' = w.drewN m) → wpList P (o0 :: l).toArray Q (l.drop n) a' w') (l.take n) (a.put o0.dst v0)) : (Code.region id (o0 :: l).toArray true).wp P Q a w :=
  wp_region_lead_tail (fun w' => ∃ m, w' = w.drewN m) n v0 hm hB hQ hy ⟨1, rfl⟩ h
end
end Go.Proofs.YtffjpidjhcnnmabDoor
namespace Go.Proofs.YtffjpidjhcnnmabDoor
set_option linter.unusedVariables false
set_option linter.unusedSimpArgs false
open Go
section
variable {P : Program} {md : Region.Mode} {ops : Array Oper} {C : World → Prop}
/-- The operations below n, in whatever order; the one of number s may come up behind a later one. -/
def HdS (P : Program) (md : Region.Mode) (ops : Array Oper) (C : World → Prop) (n s : Nat) (L : Array Bool → Act → Prop) : Nat → Array Bool → Act → Prop
  | 0 => L
  | f + 1 => fun up a => (∃ i, i ∈ Region.ready md ops up) ∧ (∀ i ∈ Region.ready md ops up, n ≤ i → f = 0 ∧ s ∈ Region.ready md ops up ∧ ∀ k, k < n → up.getD k true = false → k = s) ∧
      ∀ i ∈ Region.ready md ops up, i < n → qOp P ops C i (HdS P md ops C n s L f (up.setIfInBounds i true)) a
def WaitsS (md : Region.Mode) (ops : Array Oper) (n s : Nat) : Prop :=
  ∀ up, HeadInv md ops n up → ∀ i, i < n → i ≠ s → up.getD i true = false → ∀ t, n ≤ t → t ∉ Region.ready md ops up
theorem HdS.wp {n s g : Nat} {os : Oper} {L : Array Bool → Act → Prop} {Q : Exit → Act → World → Prop} (hsel : Region.noSelect ops = true) (hos : ops[s]? = some os) (hsn : s < n)
    (hap : ∀ j oj, ops[j]? = some oj → n ≤ j → (∀ e ∈ oj.after, Region.binds md e = true → e.on ≠ s) → os.apart ops oj = true)
    (hpure : ∀ a v, YieldsIn P ops C os v a → Yields P ops os v a) (hQ : ∀ v c a w, Q (.panic c) (a.put os.dst v) w → Q (.panic c) a w)
    (hL : ∀ up a w, C w → L up a → wpAny P md ops Q g up a w) (f : Nat) :
    ∀ up a w, HeadInv md ops n up → C w → HdS P md ops C n s L f up a → wpAny P md ops Q (f + g) up a w := by
  induction f with
  | zero => intro up a w _ hw h; rw [Nat.zero_add]; exact hL up a w hw h
  | succ f ih =>
    intro up a w inv hw ⟨⟨i0, h0⟩, h1, h⟩
    have e : f + 1 + g = (f + g) + 1 := by omega
    rw [e]
    by_cases hex : ∃ t, t ∈ Region.ready md ops up ∧ n ≤ t
    · obtain ⟨t, ht, hnt⟩ := hex
      obtain ⟨rfl, hsr, honly⟩ := h1 t ht hnt
      have hq := h s hsr hsn
      obtain ⟨v, hy, hK⟩ := yieldsIn_of_qOp hos hq
      rw [Nat.zero_add]
      refine wpAny_first hos (fun j o cs b hj => Region.noSelect_spec hsel j o cs b hj) (hQ v) g up a w ?_ hsr (hpure a v hy) (hL _ _ w hw hK)
      intro j oj hj hne hun hno
      rcases Nat.lt_or_ge j n with hjn | hjn
      · exact absurd (honly j hjn hun) hne
      · exact hap j oj hj hjn hno
    · refine ⟨fun hn => ?_, fun i hi => ?_⟩
      · rw [hn] at h0; cases h0
      · have hin : i < n := Nat.lt_of_not_le fun hh => hex ⟨i, hi, hh⟩
        exact wpOp_of_qOp hw (fun a' w' hw' h' => ih _ a' w' (inv.set hi hin) hw' h') (h i hi hin)
theorem HdS.first {n s i : Nat} {oi : Oper} {v : Value} {L : Array Bool → Act → Prop} (hi : ops[i]? = some oi) (hsel : Region.noSelect ops = true) (hw : WaitsS md ops n s) (hin : i < n)
    (hL : ∀ up a, L up a → ∀ j ∈ Region.ready md ops up, n ≤ j) (f : Nat) :
    ∀ up a, HeadInv md ops n up → (∀ j oj, ops[j]? = some oj → j ≠ i → up.getD j true = false → (∀ e ∈ oj.after, Region.binds md e = true → e.on ≠ i) → oi.apart ops oj = true) →
      i ∈ Region.ready md ops up → YieldsIn P ops C oi v a → HdS P md ops C n s L f (up.setIfInBounds i true) (a.put oi.dst v) → HdS P md ops C n s L (f + 1) up a := by
  have hno := Region.noSelect_spec hsel
  have only : ∀ up, HeadInv md ops n up → ∀ t ∈ Region.ready md ops up, n ≤ t → ∀ k, k < n → up.getD k true = false → k = s := by
    intro up inv t ht hnt k hk hu
    by_cases e : k = s
    · exact e
    · exact absurd ht (hw up inv k hk e hu t hnt)
  induction f with
  | zero =>
    intro up a inv _ hr hy H
    refine ⟨⟨i, hr⟩, fun t ht hnt => ?_, fun j hj hjn => ?_⟩
    · have ho := only up inv t ht hnt
      obtain rfl := ho i hin (mem_ready.1 hr).1
      exact ⟨rfl, hr, ho⟩
    · by_cases e : j = i
      · subst e; exact hy.qOp hi H
      · have := hL _ _ H j (ready_mono hj e)
        omega
  | succ f ih =>
    intro up a inv hap hr hy H
    refine ⟨⟨i, hr⟩, fun t ht hnt => ?_, fun j hj hjn => ?_⟩
    · exfalso
      have ho := only up inv t ht hnt
      obtain rfl := ho i hin (mem_ready.1 hr).1
      obtain ⟨⟨i', hi'⟩, c2, _⟩ := H
      have hnset : ∀ x, x ∈ Region.ready md ops (up.setIfInBounds i true) → x ≠ i := by
        rintro x hx rfl
        have h1 := (mem_ready.1 hx).1
        have h2 := (Array.getElem?_eq_some_iff.1 hi).1
        have h3 : x < up.size := by rw [inv.size]; exact h2
        simp [h3] at h1
      have hne := hnset i' hi'
      rcases Nat.lt_or_ge i' n with h1 | h1
      · have hu := (mem_ready.1 hi').1
        rw [getD_set_ne true (Ne.symm hne)] at hu
        exact hne (ho i' h1 hu)
      · exact hnset i (c2 i' hi' h1).2.1 rfl
    · by_cases e : j = i
      · subst e; exact hy.qOp hi H
      · obtain ⟨hju, oj, hoj, hall⟩ := mem_ready.1 hj
        have hnw : ∀ x ∈ oj.after, Region.binds md x = true → x.on ≠ i := by
          intro x hx hb ho
          have h1 := hall x hx hb
          rw [ho, getD_both (mem_ready.1 hr).1] at h1
          cases h1
        refine qOp_mono (fun a' h' => ?_) (qOp_put hoj (hap j oj hoj e hju hnw) (fun cs b => hno i oi cs b hi) (fun cs b => hno j oj cs b hoj) hy (H.2.2 j (ready_mono hj e) hjn))
        refine ih _ a' (inv.set hj hjn) (fun k ok hk hki hun hw => hap k ok hk hki ?_ hw) (ready_mono hr (Ne.symm e)) h'.1 ?_
        · by_cases ejk : j = k
          · subst ejk; exact hju
          · rwa [getD_set_ne true ejk] at hun
        · rw [Array.setIfInBounds_comm _ _ e]; exact h'.2
theorem HdS.text {n s g : Nat} {Lq : Act → Prop} (hsel : Region.noSelect ops = true) (hw : WaitsS md ops n s) (l : List Oper) :
    ∀ k up a, (∀ j, j < l.length → l[j]? = ops[k + j]?) → k + l.length = n → HeadInv md ops n up → Region.lexHead md ops g l.length k up = true → wpQuiet P ops C Lq l a →
      HdS P md ops C n s (fun up' a' => Region.seqB md ops g n up' = true ∧ Lq a') l.length up a := by
  induction l with
  | nil =>
    intro k up a _ hk _ hB h
    obtain rfl : k = n := by simpa using hk
    exact ⟨by simpa [Region.lexHead] using hB, h⟩
  | cons o l ih =>
    intro k up a hl hk inv hB h
    have h0 : ops[k]? = some o := by simpa using (hl 0 (by simp)).symm
    simp only [List.length_cons, Region.lexHead, Bool.and_eq_true] at hB
    obtain ⟨⟨hr0, hf⟩, hB'⟩ := hB
    have hr : k ∈ Region.ready md ops up := by simpa using hr0
    simp only [List.length_cons] at hk
    have hq : qOp P ops C k (wpQuiet P ops C Lq l) a := by unfold qOp; rw [h0]; exact h
    obtain ⟨v, hy, hK⟩ := yieldsIn_of_qOp h0 hq
    refine HdS.first h0 hsel hw (by omega) (fun up' a' hh => seqB_ready hh.1) l.length up a inv (Region.free_spec h0 hf) hr hy ?_
    refine ih (k + 1) _ _ (fun j hj => ?_) (by omega) (inv.set hr (by omega)) hB' hK
    have := hl (j + 1) (by simp; omega)
    rw [show k + 1 + j = k + (j + 1) by omega, ← this]
    simp
/-- Each of the first n but s is waited for by a later one up to n that is not s; each behind n by the next. -/
def lateS (md : Region.Mode) (ops : Array Oper) (n s : Nat) : Bool :=
  ((List.range n).all fun i => i == s || (List.range (n + 1)).any fun j => decide (i < j) && !(j == s) && Region.waitsFor md ops j i) && Region.chainB md ops n
theorem lateS_waits {n s : Nat} (hB : lateS md ops n s = true) : WaitsS md ops n s := by
  simp only [lateS, Bool.and_eq_true] at hB
  obtain ⟨hs, hc⟩ := hB
  intro up inv
  have unl : ∀ {x : Nat}, x < ops.size → up.getD x false ≠ true → up.getD x true = false := fun {x} hx h => getD_in (by rw [inv.size]; exact hx) (by simpa using h)
  have key : ∀ d i, n - i = d → i < n → i ≠ s → up.getD i true = false → n ∉ Region.ready md ops up := by
    intro d
    induction d using Nat.strongRecOn with
    | _ d ih =>
      intro i hd hi hne hu hr
      obtain ⟨_, o, ho, hall⟩ := mem_ready.1 hr
      have h1 := List.all_eq_true.1 hs i (List.mem_range.2 hi)
      have h2 : (i == s) = false := beq_eq_false_iff_ne.2 hne
      simp only [h2, Bool.false_or, List.any_eq_true, Bool.and_eq_true, decide_eq_true_eq, Bool.not_eq_true', beq_eq_false_iff_ne] at h1
      obtain ⟨j, hjm, ⟨hij, hjs⟩, hwj⟩ := h1
      have hjn : j ≤ n := by have := List.mem_range.1 hjm; omega
      obtain ⟨oj, hoj, e, he, hbd, hon⟩ := Region.waitsFor_spec hwj
      by_cases hl : up.getD j false = true
      · have h3 := inv.closed j oj hoj hl e he hbd
        rw [hon, getD_both hu] at h3; cases h3
      · by_cases hjn' : j = n
        · subst hjn'
          obtain rfl : oj = o := Option.some.inj (hoj.symm.trans ho)
          have h3 := hall e he hbd
          rw [hon, getD_both hu] at h3; cases h3
        · exact ih (n - j) (by omega) j rfl (by omega) hjs (unl (Array.getElem?_eq_some_iff.1 hoj).1 hl) hr
  intro i hi hne hu t ht hr
  by_cases htn : t = n
  · subst htn; exact key _ i rfl hi hne hu hr
  · obtain ⟨_, o, ho, hall⟩ := mem_ready.1 hr
    have htl := (Array.getElem?_eq_some_iff.1 ho).1
    have h1 := List.all_eq_true.1 hc t (List.mem_range.2 htl)
    have h2 : ¬ t ≤ n := by omega
    simp only [h2, decide_false, Bool.false_or] at h1
    obtain ⟨o', ho', e, he, hbd, hon⟩ := Region.waitsFor_spec h1
    obtain rfl : o' = o := Option.some.inj (ho'.symm.trans ho)
    have h3 := hall e he hbd
    rw [hon, getD_both (inv.tail (t - 1) (by omega) (by omega))] at h3; cases h3
def apartS (md : Region.Mode) (ops : Array Oper) (n s : Nat) : Bool :=
  (List.range ops.size).all fun j => decide (j < n) || match ops[j]?, ops[s]? with
    | some oj, some os => (oj.after.any fun e => Region.binds md e && e.on == s) || os.apart ops oj
    | _, _ => false
theorem apartS_spec {n s : Nat} {os : Oper} (hos : ops[s]? = some os) (hB : apartS md ops n s = true) (j : Nat) (oj : Oper) (hj : ops[j]? = some oj) (hn : n ≤ j) (hno : ∀ e ∈ oj.after, Region.binds md e = true → e.on ≠ s) : os.apart ops oj = true := by
  unfold apartS at hB
  have h1 := List.all_eq_true.1 hB j (List.mem_range.2 (Array.getElem?_eq_some_iff.1 hj).1)
  have h2 : ¬ j < n := by omega
  rw [hj, hos] at h1
  simp only [h2, decide_false, Bool.false_or, Bool.or_eq_true] at h1
  rcases h1 with h1 | h1
  · exfalso
    obtain ⟨e, he, hb⟩ := Array.any_eq_true'.1 h1
    simp only [Bool.and_eq_true, beq_iff_eq] at hb
    exact hno e he hb.1 hb.2
  · exact h1
def stragB (ops : Array Oper) (n s : Nat) : Bool :=
  Region.noSelect ops && decide (n < ops.size) && decide (s < n) && lateS .any ops n s && apartS .any ops n s && Region.lexHead .any ops (ops.size - n) n 0 (Array.replicate ops.size false)
theorem wp_region_strag {id : Nat} {Q : Exit → Act → World → Prop} {a : Act} {w : World} {l : List Oper} {os : Oper} (C : World → Prop) (n s : Nat) (hm : P.follows .mixedOrders = true) (hB : stragB l.toArray n s = true) (hos : l.toArray[s]? = some os)
    (hpure : ∀ a v, YieldsIn P l.toArray C os v a → Yields P l.toArray os v a) (hQ : ∀ v c a w, Q (.panic c) (a.put os.dst v) w → Q (.panic c) a w) (hC : C { w with drawn := w.drawn + 1 })
    (h : wpQuiet P l.toArray C (fun a' => ∀ w', C w' → wpList P l.toArray Q (l.drop n) a' w') (l.take n) a) : (Code.region id l.toArray true).wp P Q a w := by
  simp only [stragB, Bool.and_eq_true, decide_eq_true_eq] at hB
  obtain ⟨⟨⟨⟨⟨hsel, hn⟩, hsn⟩, hlate⟩, hap⟩, hlex⟩ := hB
  have hnl : n < l.length := by simpa using hn
  have htl : (l.take n).length = n := by simp; omega
  have hdl : (l.drop n).length = l.toArray.size - n := by simp
  have inv0 : HeadInv .any l.toArray n (Array.replicate l.toArray.size false) :=
    ⟨by simp, fun j oj _ hl => (by rw [getD_replicate_false] at hl; cases hl), fun t _ ht => getD_in (by simpa using ht) (getD_replicate_false _ _)⟩
  have H := HdS.text (C := C) (md := .any) (g := l.toArray.size - n) hsel (lateS_waits hlate) (l.take n) 0 (Array.replicate l.toArray.size false) a
    (fun j hj => by rw [htl] at hj; simp [hj]) (by rw [htl]; omega) inv0 (by rw [htl]; exact hlex) h
  have HW := HdS.wp (Q := Q) (g := l.toArray.size - n) hsel hos hsn (apartS_spec hos hap) hpure hQ (fun up a' w' hw' hh => by
    have := wpAny_of_seq (P := P) (md := .any) (Q' := Q) (l.drop n) n up a' w' (fun j => by simp [List.getElem?_drop]) (by rw [hdl]; exact hh.1) (hh.2 w' hw')
    rwa [hdl] at this) _ _ a _ inv0 hC H
  refine wp_region_any hm ?_
  rw [htl, show n + (l.toArray.size - n) = l.toArray.size by omega] at HW
  exact HW
/-- A pick yields the same in every world. -/
theorem pick_pure {o : Oper} {c x y : Operand} (ho : o.op = .pick c x y) (w0 : World) (hC : C w0) (a : Act) (v : Value) (h : YieldsIn P ops C o v a) : Yields P ops o v a := by
  rcases h with ⟨hw, h⟩ | h
  · refine .inl ⟨hw, fun w => ?_⟩
    have h0 := h w0 hC
    unfold Oper.quietAt at h0
    have e : ∀ w, (execOp a.eval o).run P w = ((asBool (a.eval c)).run P w).andThen fun b w₁ => .ok (.value (if b = true then a.eval x else a.eval y)) w₁ := by
      intro w
      unfold execOp
      rw [ho]
      simp [Sem.run_bind, Sem.run_pure, Result.andThen]
    rw [e] at h0 ⊢
    cases hc : a.eval c with
    | bool b =>
      rw [hc] at h0
      have hb : ∀ w, (asBool (.bool b)).run P w = .ok b w := fun w => rfl
      rw [hb] at h0 ⊢
      simp only [Result.andThen] at h0 ⊢
      unfold Oper.quietUpon at h0
      simp at h0
      rw [h0]
    | _ =>
      exfalso
      rw [hc] at h0
      simp [asBool, Oper.quietUpon, Result.andThen] at h0
  · exact .inr h
end
end Go.Proofs.YtffjpidjhcnnmabDoor
namespace Go.Proofs.YtffjpidjhcnnmabDoor
set_option linter.unusedVariables false
set_option linter.unusedSimpArgs false
open Go.RowKit

/-- The months' lengths, as the package-level table has them. -/
def mlen (k : Nat) : Int := [0, 31, 28, 31, 30, 31, 30, 31, 31, 30, 31, 30, 31].getD k 0
def MonTab (w : World) : Prop := ∀ k : Nat, k < 13 → w.cell? ⟨1, k, none⟩ = some (.int .i64 (mlen k))
theorem mlen_dim (y : Int) (k : Nat) (h0 : 1 ≤ k) (h1 : k ≤ 12) (h : k ≠ 2 ∨ leapB y = false) : mlen k = dim y k := by
  have : k = 1 ∨ k = 2 ∨ k = 3 ∨ k = 4 ∨ k = 5 ∨ k = 6 ∨ k = 7 ∨ k = 8 ∨ k = 9 ∨ k = 10 ∨ k = 11 ∨ k = 12 := by omega
  rcases this with rfl | rfl | rfl | rfl | rfl | rfl | rfl | rfl | rfl | rfl | rfl | rfl <;> simp [mlen, dim]
  rcases h with h | h
  · omega
  · rw [lp_neg h]; rfl
theorem dim_feb {y : Int} (h : leapB y = true) : dim y 2 = 29 := by simp [dim, lp_pos h]

set_option maxHeartbeats 400000 in
theorem leapYear_any (y : Int) (w : World) (h0 : 0 ≤ y) (h1 : y ≤ 10000) :
    Calls Tryd.prog 84 #[.int .i64 y] w fun e w' => e = .returned (.bool (leapB y)) ∧ w' = w := by
  by_cases h4 : y % 4 = 0
  · have b4 : (y % 4 == 0) = true := by rw [beq_iff_eq]; exact h4
    by_cases h100 : y % 100 = 0
    · have b100 : (y % 100 != 0) = false := by rw [bne_eq_false_iff_eq]; exact h100
      by_cases h400 : y % 400 = 0
      · have b400 : (y % 400 == 0) = true := by rw [beq_iff_eq]; exact h400
        rw [(leapB_iff y).2 ⟨h4, Or.inr h400⟩]
        clear h4 h100 h400
        go_enter Tryd.func84, Tryd.ntmps84
        go_wp2
        go_ret
        exact ⟨rfl, rfl⟩
      · have b400 : (y % 400 == 0) = false := by rw [beq_eq_false_iff_ne]; exact h400
        rw [show leapB y = false from Bool.eq_false_iff.2 fun h => by have := (leapB_iff y).1 h; omega]
        clear h4 h100 h400
        go_enter Tryd.func84, Tryd.ntmps84
        go_wp2
        go_ret
        exact ⟨rfl, rfl⟩
    · have b100 : (y % 100 != 0) = true := by rw [bne_iff_ne]; exact h100
      rw [(leapB_iff y).2 ⟨h4, Or.inl h100⟩]
      clear h4 h100
      go_enter Tryd.func84, Tryd.ntmps84
      go_wp2
      go_ret
      exact ⟨rfl, rfl⟩
  · have b4 : (y % 4 == 0) = false := by rw [beq_eq_false_iff_ne]; exact h4
    rw [show leapB y = false from Bool.eq_false_iff.2 fun h => by have := (leapB_iff y).1 h; omega]
    clear h4
    go_enter Tryd.func84, Tryd.ntmps84
    go_wp2
    go_ret
    exact ⟨rfl, rfl⟩
set_option maxHeartbeats 400000 in
theorem monthDays_any (y : Int) (k : Nat) (w : World) (h0 : 0 ≤ y) (h1 : y ≤ 10000) (k0 : 1 ≤ k) (k1 : k ≤ 12) (hM : MonTab w) :
    Calls Tryd.prog 76 #[.int .i64 y, .int .i64 (k : Int)] w fun e w' => e = .returned (.int .i64 (dim y k)) ∧ w' = w := by
  by_cases h2 : k = 2
  · subst h2
    have hc := hM 2 (by omega)
    cases hl : leapB y
    · rw [← mlen_dim y 2 (by omega) (by omega) (Or.inr hl)]
      clear hM
      go_enter Tryd.func76, Tryd.ntmps76
      go_wp2_with (go_at_call 84; refine (leapYear_any _ _ h0 h1).mono ?_; rintro e w' ⟨rfl, rfl⟩)
      go_ret
      exact ⟨rfl, rfl⟩
    · have hd : Hid (dim y 2 = 29) := dim_feb hl
      have hc' : w.cell? ⟨1, 2, none⟩ = some (.int .i64 28) := hc
      clear hM hc
      go_enter Tryd.func76, Tryd.ntmps76
      go_wp2_with (go_at_call 84; refine (leapYear_any _ _ h0 h1).mono ?_; rintro e w' ⟨rfl, rfl⟩)
      go_ret
      exact ⟨ret_int hd.out, rfl⟩
  · have hc := hM k (by omega)
    have hb : ((k : Int) == 2) = false := by rw [beq_eq_false_iff_ne]; omega
    rw [← mlen_dim y k k0 k1 (Or.inl h2)]
    clear hM
    go_enter Tryd.func76, Tryd.ntmps76
    go_wp2_with (go_at_call 84; refine (leapYear_any _ _ h0 h1).mono ?_; rintro e w' ⟨rfl, rfl⟩)
    go_ret
    exact ⟨rfl, rfl⟩
end Go.Proofs.YtffjpidjhcnnmabDoor
namespace Go.Proofs.YtffjpidjhcnnmabDoor
set_option linter.unusedVariables false
set_option linter.unusedSimpArgs false
open Go.RowKit

/-- A day and hour as the program holds it. -/
abbrev civ (y m d h i s : Int) : Value := .agg #[.int .i64 y, .int .i64 m, .int .i64 d, .int .i64 h, .int .i64 i, .int .i64 s]
theorem MonTab.below {w w' : World} (h : MonTab w) (hb : Below w.heap.size w w') : MonTab w' := by
  intro k hk
  have hc := h k hk
  have hlt : 1 < w.heap.size := World.block_lt_of_cell? _ _ hc
  rw [hb.cell (p := ⟨1, k, none⟩) hlt]
  exact hc
theorem MonTab.alloc {w : World} (h : MonTab w) (o : Obj) : MonTab (w.alloc o) := h.below ((Below.refl _ w).alloc (Nat.le_refl _) o)
theorem MonTab.drewN {w : World} (h : MonTab w) (n : Nat) : MonTab (w.drewN n) := fun k hk => h k hk
theorem vldB_eq (y m d h i s : Int) : vldB y m d h i s = (withinB y 1970 9999 && withinB m 1 12 && withinB h 0 23 && withinB i 0 59 && withinB s 0 59 && withinB d 1 (dim y m)) := by
  unfold vldB withinB
  rw [Bool.eq_iff_iff]
  simp only [decide_eq_true_eq, Bool.and_eq_true]
  omega

set_option maxHeartbeats 4000000 in
theorem CivilOk_any (y m d h i s : Int) (w : World) (hM : MonTab w) :
    Calls Tryd.prog 74 #[civ y m d h i s] w fun e w' => e = .returned (.bool (vldB y m d h i s)) ∧ Below w.heap.size w w' := by
  have hM' := fun o n => (hM.alloc o).drewN n
  have HB := fun o n => below_drewN ((Below.refl w.heap.size w).alloc (Nat.le_refl _) o) n
  have hv : Hid (vldB y m d h i s = (withinB y 1970 9999 && withinB m 1 12 && withinB h 0 23 && withinB i 0 59 && withinB s 0 59 && withinB d 1 (dim y m))) := vldB_eq y m d h i s
  clear hM
  go_enter Tryd.func74, Tryd.ntmps74
  go_wp2
  refine wp_region_quiet_lit ?_ ?_ ?_
  · kernel_rfl
  · kernel_rfl
  · repeat (go_big_quiet_step ((go_at_call 82; exact Calls.quiet_of_same (within_any _ _ _ _))))
    cases hy : withinB y 1970 9999
    · repeat (go_big_quiet_step (fail))
      refine wpQuiet_nil ?_
      rintro _ ⟨nq, rfl⟩
      go_wp2
      go_ret
      exact ⟨ret_bool (by rw [hv.out, hy]; rfl), HB _ _⟩
    · repeat (go_big_quiet_step ((go_at_call 82; exact Calls.quiet_of_same (within_any _ _ _ _))))
      cases hm : withinB m 1 12
      · repeat (go_big_quiet_step (fail))
        refine wpQuiet_nil ?_
        rintro _ ⟨nq, rfl⟩
        go_wp2
        go_ret
        exact ⟨ret_bool (by rw [hv.out, hy, hm]; rfl), HB _ _⟩
      · repeat (go_big_quiet_step ((go_at_call 82; exact Calls.quiet_of_same (within_any _ _ _ _))))
        cases hh : withinB h 0 23
        · repeat (go_big_quiet_step (fail))
          refine wpQuiet_nil ?_
          rintro _ ⟨nq, rfl⟩
          go_wp2
          go_ret
          exact ⟨ret_bool (by rw [hv.out, hy, hm, hh]; rfl), HB _ _⟩
        · repeat (go_big_quiet_step ((go_at_call 82; exact Calls.quiet_of_same (within_any _ _ _ _))))
          cases hi : withinB i 0 59
          · repeat (go_big_quiet_step (fail))
            refine wpQuiet_nil ?_
            rintro _ ⟨nq, rfl⟩
            go_wp2
            go_ret
            exact ⟨ret_bool (by rw [hv.out, hy, hm, hh, hi]; rfl), HB _ _⟩
          · repeat (go_big_quiet_step ((go_at_call 82; exact Calls.quiet_of_same (within_any _ _ _ _))))
            cases hs : withinB s 0 59
            · repeat (go_big_quiet_step (fail))
              refine wpQuiet_nil ?_
              rintro _ ⟨nq, rfl⟩
              go_wp2
              go_ret
              exact ⟨ret_bool (by rw [hv.out, hy, hm, hh, hi, hs]; rfl), HB _ _⟩
            · have hy' := within_iff.1 hy
              have hm' := within_iff.1 hm
              obtain ⟨k, rfl⟩ := Int.eq_ofNat_of_zero_le (a := m) (by omega)
              have HV : Hid (vldB y k d h i s = withinB d 1 (dim y k)) := by
                show _ = _
                rw [hv.out, hy, hm, hh, hi, hs]; rfl
              clear hv
              repeat (go_big_quiet_step (first
                | (go_at_call 82; exact Calls.quiet_of_same (within_any _ _ _ _))
                | (go_at_call 76; exact Calls.quiet_of_same (monthDays_any _ _ _ (by omega) (by omega) (by omega) (by omega) (hM' _ _)))))
              refine wpQuiet_nil ?_
              rintro _ ⟨nq, rfl⟩
              go_wp2
              go_ret
              exact ⟨ret_bool HV.out, HB _ _⟩
set_option maxHeartbeats 400000 in
theorem l2leap_any (y : Int) (w : World) (h0 : 0 ≤ y) (h1 : y ≤ 10000) :
    Calls Tryd.prog 72 #[.int .i64 y] w fun e w' => e = .returned (.bool (leapB y)) ∧ w' = w := by
  by_cases h4 : y % 4 = 0
  · have b4 : (y % 4 == 0) = true := by rw [beq_iff_eq]; exact h4
    by_cases h100 : y % 100 = 0
    · have b100 : (y % 100 != 0) = false := by rw [bne_eq_false_iff_eq]; exact h100
      by_cases h400 : y % 400 = 0
      · have b400 : (y % 400 == 0) = true := by rw [beq_iff_eq]; exact h400
        rw [(leapB_iff y).2 ⟨h4, Or.inr h400⟩]
        clear h4 h100 h400
        go_enter Tryd.func72, Tryd.ntmps72
        go_wp2
        go_ret
        exact ⟨rfl, rfl⟩
      · have b400 : (y % 400 == 0) = false := by rw [beq_eq_false_iff_ne]; exact h400
        rw [show leapB y = false from Bool.eq_false_iff.2 fun h => by have := (leapB_iff y).1 h; omega]
        clear h4 h100 h400
        go_enter Tryd.func72, Tryd.ntmps72
        go_wp2
        go_ret
        exact ⟨rfl, rfl⟩
    · have b100 : (y % 100 != 0) = true := by rw [bne_iff_ne]; exact h100
      rw [(leapB_iff y).2 ⟨h4, Or.inl h100⟩]
      clear h4 h100
      go_enter Tryd.func72, Tryd.ntmps72
      go_wp2
      go_ret
      exact ⟨rfl, rfl⟩
  · have b4 : (y % 4 == 0) = false := by rw [beq_eq_false_iff_ne]; exact h4
    rw [show leapB y = false from Bool.eq_false_iff.2 fun h => by have := (leapB_iff y).1 h; omega]
    clear h4
    go_enter Tryd.func72, Tryd.ntmps72
    go_wp2
    go_ret
    exact ⟨rfl, rfl⟩
theorem dim_30 (y m : Int) (h : m = 4 ∨ m = 6 ∨ m = 9 ∨ m = 11) : dim y m = 30 := by
  unfold dim; rw [if_neg (by omega), if_pos h]
theorem dim_31 (y m : Int) (h2 : m ≠ 2) (h : ¬ (m = 4 ∨ m = 6 ∨ m = 9 ∨ m = 11)) : dim y m = 31 := by
  unfold dim; rw [if_neg h2, if_neg h]
set_option maxHeartbeats 1000000 in
theorem l2days_any (y m : Int) (w : World) (h0 : 0 ≤ y) (h1 : y ≤ 10000) :
    Calls Tryd.prog 59 #[.int .i64 y, .int .i64 m] w fun e w' => e = .returned (.int .i64 (dim y m)) ∧ w' = w := by
  by_cases h2 : m = 2
  · subst h2
    cases hl : leapB y
    · rw [show dim y 2 = 28 by simp [dim, lp_neg hl]]
      go_enter Tryd.func59, Tryd.ntmps59
      go_wp2_with (go_at_call 72; refine (l2leap_any _ _ h0 h1).mono ?_; rintro e w' ⟨rfl, rfl⟩)
      go_ret
      exact ⟨rfl, rfl⟩
    · rw [dim_feb hl]
      go_enter Tryd.func59, Tryd.ntmps59
      go_wp2_with (go_at_call 72; refine (l2leap_any _ _ h0 h1).mono ?_; rintro e w' ⟨rfl, rfl⟩)
      go_ret
      exact ⟨rfl, rfl⟩
  · have hb2 : (m == 2) = false := by rw [beq_eq_false_iff_ne]; exact h2
    by_cases h4 : m = 4
    · subst h4
      rw [dim_30 y 4 (by omega)]
      go_enter Tryd.func59, Tryd.ntmps59
      go_wp2
      go_ret
      exact ⟨rfl, rfl⟩
    · by_cases h6 : m = 6
      · subst h6
        rw [dim_30 y 6 (by omega)]
        go_enter Tryd.func59, Tryd.ntmps59
        go_wp2
        go_ret
        exact ⟨rfl, rfl⟩
      · by_cases h9 : m = 9
        · subst h9
          rw [dim_30 y 9 (by omega)]
          go_enter Tryd.func59, Tryd.ntmps59
          go_wp2
          go_ret
          exact ⟨rfl, rfl⟩
        · by_cases h11 : m = 11
          · subst h11
            rw [dim_30 y 11 (by omega)]
            go_enter Tryd.func59, Tryd.ntmps59
            go_wp2
            go_ret
            exact ⟨rfl, rfl⟩
          · have hd : dim y m = 31 := dim_31 y m h2 (by omega)
            have hb4 : (m == 4) = false := by rw [beq_eq_false_iff_ne]; exact h4
            have hb6 : (m == 6) = false := by rw [beq_eq_false_iff_ne]; exact h6
            have hb9 : (m == 9) = false := by rw [beq_eq_false_iff_ne]; exact h9
            have hb11 : (m == 11) = false := by rw [beq_eq_false_iff_ne]; exact h11
            rw [hd]
            clear hd h2 h4 h6 h9 h11
            go_enter Tryd.func59, Tryd.ntmps59
            go_wp2
            go_ret
            exact ⟨rfl, rfl⟩
end Go.Proofs.YtffjpidjhcnnmabDoor
namespace Go.Proofs.YtffjpidjhcnnmabDoor
set_option linter.unusedVariables false
set_option linter.unusedSimpArgs false
open Go.RowKit

def timeB (t : Int) : Bool := withinB t 0 253402300799
theorem timeB_iff {t : Int} : timeB t = true ↔ 0 ≤ t ∧ t ≤ 253402300799 := within_iff
theorem timeB_no {t : Int} (h : ¬ (0 ≤ t ∧ t ≤ 253402300799)) : timeB t = false := Bool.eq_false_iff.2 fun hh => h (timeB_iff.1 hh)
def lya (y : Int) : Int := (y - 1) / 4 - (y - 1) / 100 + (y - 1) / 400
theorem lya_1970 : lya 1970 = 477 := by decide
theorem lya_bd (y : Int) (h0 : 1 ≤ y) (h1 : y ≤ 20000) : 0 ≤ lya y ∧ lya y ≤ 20000 := by unfold lya; omega
theorem dby_lya (y : Int) : dby y = 365 * (y - 1970) + lya y - 477 := by unfold dby lya; omega
theorem dby_le (y : Int) (h : 1970 ≤ y) : dby y ≤ 366 * (y - 1970) := by unfold dby; omega
theorem ret_civ {a b c d e f a' b' c' d' e' f' : Int} (h0 : a = a') (h1 : b = b') (h2 : c = c') (h3 : d = d') (h4 : e = e') (h5 : f = f') (r : Bool) :
    Ending.returned (.tuple #[civ a b c d e f, .bool r]) = .returned (.tuple #[civ a' b' c' d' e' f', .bool r]) := by rw [h0, h1, h2, h3, h4, h5]
theorem ret_ib2 {k : IntKind} {n m : Int} {a b : Bool} (h : m = n) (h' : b = a) : Ending.returned (.tuple #[.int k n, .bool a]) = .returned (.tuple #[.int k m, .bool b]) := by rw [h, h']
/-- The day of the week, 0 for Monday. -/
def wdN (t : Int) : Nat := ((3 + t / 86400) % 7).toNat
theorem wdN_lt (t : Int) : wdN t < 7 := by unfold wdN; omega
theorem wdN_eq (t : Int) : ((wdN t : Nat) : Int) = (3 + t / 86400) % 7 := by unfold wdN; omega

set_option maxHeartbeats 400000 in
theorem isTime_any (t : Int) (w : World) :
    Calls Tryd.prog 77 #[.int .i64 t] w fun e w' => e = .returned (.bool (timeB t)) ∧ w' = w := by
  unfold timeB
  go_enter Tryd.func77, Tryd.ntmps77
  go_wp2_with fail
  refine (within_any _ _ _ _).mono ?_
  rintro e w' ⟨rfl, rfl⟩
  go_wp2
  go_ret
  exact ⟨rfl, rfl⟩
set_option maxHeartbeats 400000 in
theorem leapYearsAhead_any (y : Int) (w : World) (h0 : 1 ≤ y) (h1 : y ≤ 20000) :
    Calls Tryd.prog 83 #[.int .i64 y] w fun e w' => e = .returned (.int .i64 (lya y)) ∧ w' = w := by
  unfold lya
  go_enter Tryd.func83, Tryd.ntmps83
  go_wp2
  go_ret
  exact ⟨rfl, rfl⟩
set_option maxHeartbeats 400000 in
theorem daysAhead_any (y : Int) (w : World) (h0 : 1970 ≤ y) (h1 : y ≤ 20000) :
    Calls Tryd.prog 75 #[.int .i64 y] w fun e w' => e = .returned (.int .i64 (dby y)) ∧ w' = w := by
  have hd : Hid (dby y = 365 * (y - 1970) + lya y - 477) := dby_lya y
  have hl := lya_bd y (by omega) h1
  have h7 := lya_1970
  go_enter Tryd.func75, Tryd.ntmps75
  go_wp2_with (go_at_call 83; refine (leapYearsAhead_any _ _ (by omega) (by omega)).mono ?_; rintro e w' ⟨rfl, rfl⟩)
  go_ret
  exact ⟨ret_int (by rw [hd.out]), rfl⟩
set_option maxHeartbeats 1000000 in
theorem SecondsOf_no (y m d h i s : Int) (w : World) (hM : MonTab w) (hv : vldB y m d h i s = false) :
    Calls Tryd.prog 65 #[civ y m d h i s] w fun e w' => e = .returned (.tuple #[.int .i64 0, .bool false]) ∧ Below w.heap.size w w' := by
  have hM' := fun o => hM.alloc o
  clear hM
  go_enter Tryd.func65, Tryd.ntmps65
  go_wp2_with fail
  refine (CivilOk_any y m d h i s _ (hM' _)).mono ?_
  rintro e w1 ⟨rfl, hb1⟩
  have BW := below_then (below_a1 w _) hb1
  clear hb1 hM'
  go_wp2
  go_ret2
  exact ⟨rfl, BW⟩
set_option maxHeartbeats 2000000 in
theorem SecondsOf_yes (y : Int) (m : Nat) (d h i s : Int) (w : World) (hM : MonTab w) (hv : vldB y m d h i s = true) :
    Calls Tryd.prog 65 #[civ y m d h i s] w fun e w' => e = .returned (.tuple #[.int .i64 (secs y m d h i s), .bool true]) ∧ Below w.heap.size w w' := by
  have hM' := fun o => hM.alloc o
  have hfin : Hid (secs y m d h i s = (dby y + d - 1 + cum y m) * 86400 + h * 3600 + i * 60 + s) := by
    show _ = _
    unfold secs dnum; congr 3; congr 1; omega
  obtain ⟨v1, v2, v3, v4, v5, v6, v7, v8, v9, v10, v11, v12⟩ := vldB_iff.1 hv
  have hd := dby_bd v1 (by omega)
  have hdm := dim_bd y m
  clear hM
  go_enter Tryd.func65, Tryd.ntmps65
  go_wp2_with fail
  refine (CivilOk_any y m d h i s _ (hM' _)).mono ?_
  rintro e w1 ⟨rfl, hb1⟩
  have BW := below_then (below_a1 w _) hb1
  have hM1 := (hM' _).below hb1
  obtain ⟨hc1, hf1⟩ := bcell2 hb1
  clear hb1 hM' hf1
  go_wp2_with fail
  refine wp_region_quiet_lit ?_ ?_ ?_
  · kernel_rfl
  · kernel_rfl
  · repeat (go_big_quiet_step ((go_at_call 75; exact Calls.quiet_of_same (daysAhead_any _ _ (by omega) (by omega)))))
    refine wpQuiet_nil ?_
    rintro _ ⟨nq, rfl⟩
    have BW2 := below_drewN BW nq
    have hM2 : MonTab (w1.drewN nq) := hM1.drewN nq
    have hc2 : ∀ o, (w1.drewN nq).cell? ⟨w.heap.size, o, none⟩ = (w.alloc (.cells #[.int .i64 y, .int .i64 m, .int .i64 d, .int .i64 h, .int .i64 i, .int .i64 s] 62)).cell? ⟨w.heap.size, o, none⟩ := fun o => hc1 w.heap.size o (by simp)
    clear BW hM1 hc1
    generalize w1.drewN nq = W at *
    go_wp2
    go_loop [4, 5] (fun dd kk => ∃ k : Nat, 1 ≤ k ∧ k ≤ m ∧ kk = .int .i64 k ∧ dd = .int .i64 (dby y + d - 1 + cum y k)) (fun _ kk => m - (intOf kk).toNat)
    case atStart => exact ⟨1, by omega, by omega, rfl, congrArg (Value.int .i64) (by simp [cum])⟩
    case round =>
      obtain ⟨k, hk0, hk1, rfl, rfl⟩ := hrel
      have hcb := cum_bd y k
      have hdk := dim_bd y k
      by_cases hlt : k < m
      · have hs : Hid (cum y ((k : Int) + 1) = cum y k + dim y k) := cum_succ y k (by omega) (by omega)
        go_wp2_with (go_at_call 76; refine (monthDays_any _ _ _ (by omega) (by omega) (by omega) (by omega) hM2).mono ?_; rintro e w' ⟨rfl, rfl⟩)
        go_round
        case rel => exact ⟨k + 1, by omega, by omega, by go_num, congrArg (Value.int .i64) (by rw [show ((k + 1 : Nat) : Int) = (k : Int) + 1 by omega, hs.out]; omega)⟩
        case measure => simp [intOf]; omega
      · obtain rfl : k = m := by omega
        go_wp2
        go_ret2
        exact ⟨ret_ib2 (by rw [hfin.out]) rfl, BW2⟩
set_option maxHeartbeats 1000000 in
theorem CivilOf_no (t : Int) (w : World) (h : ¬ (0 ≤ t ∧ t ≤ 253402300799)) :
    Calls Tryd.prog 66 #[.int .i64 t] w fun e w' => e = .returned (.tuple #[civ 0 0 0 0 0 0, .bool false]) ∧ Below w.heap.size w w' := by
  have ht : timeB t = false := timeB_no h
  clear h
  go_enter Tryd.func66, Tryd.ntmps66
  go_wp2_with (go_at_call 77; refine (isTime_any _ _).mono ?_; rintro e w' ⟨rfl, rfl⟩)
  exact bodyPost_ret (v := .tuple #[civ 0 0 0 0 0 0, .bool false]) (by simp [results, Tryd.results66, go_sem]) rfl ⟨rfl, below_a1 _ _⟩
set_option maxHeartbeats 2000000 in
theorem CivilOf_yes (t y : Int) (m : Nat) (d h i s : Int) (w : World) (hM : MonTab w) (hv : vld y m d h i s) (ht : t = secs y m d h i s) :
    Calls Tryd.prog 66 #[.int .i64 t] w fun e w' => e = .returned (.tuple #[civ y m d h i s, .bool true]) ∧ Below w.heap.size w w' := by
  have hb := secs_bd hv
  have hp := secs_parts hv
  rw [← ht] at hb hp
  have hT : timeB t = true := timeB_iff.2 hb
  have hy := fun k => year_iff hv k
  have hm := fun k => month_iff hv k
  have hlt := dnum_lt hv
  have hle := dby_le (y + 1) (by have := hv.1; omega)
  obtain ⟨p1, p2, p3, p4, p5⟩ := hp
  have cl := clock_parts hv.2.2.2.2.2.2.1 hv.2.2.2.2.2.2.2.1 hv.2.2.2.2.2.2.2.2.1 hv.2.2.2.2.2.2.2.2.2.1 hv.2.2.2.2.2.2.2.2.2.2.1 hv.2.2.2.2.2.2.2.2.2.2.2
  rw [← p2] at cl
  have HC : Hid (t % 86400 / 3600 = h ∧ t % 86400 / 60 % 60 = i ∧ t % 86400 % 60 = s) := cl
  have HD : Hid (dnum y m d = dby y + cum y m + d - 1) := rfl
  obtain ⟨v1, v2, v3, v4, v5, v6, _⟩ := hv
  rw [← p1] at hy hlt HD
  have hM1 := fun o => hM.alloc o
  have hdb := dby_bd v1 (by omega)
  clear ht p2 p3 p4 p5 cl hM
  have HY : Hid (∀ k, dby (k + 1) ≤ t / 86400 ↔ k < y) := hy
  have HM : Hid (∀ k, 1 ≤ k → k ≤ (m : Int) → (dim y k ≤ cum y m + d - 1 - cum y k ↔ k < m)) := hm
  clear hy hm p1
  go_enter Tryd.func66, Tryd.ntmps66
  go_wp2_with (go_at_call 77; refine (isTime_any _ _).mono ?_; rintro e w' ⟨rfl, rfl⟩)
  go_loop [5] (fun yr => ∃ k : Int, 1970 ≤ k ∧ k ≤ y ∧ yr = .int .i64 k) (fun yr => (y - intOf yr).toNat)
  case atStart => exact ⟨_, by omega, by omega, rfl⟩
  case round =>
    obtain ⟨k, hk0, hk1, rfl⟩ := hrel
    have hkb := dby_bd (y := k + 1) (by omega) (by omega)
    by_cases hk : k < y
    · have hcond : dby (k + 1) ≤ t / 86400 := (HY.out k).2 hk
      go_wp2_with (go_at_call 75; refine (daysAhead_any _ _ (by omega) (by omega)).mono ?_; rintro e w' ⟨rfl, rfl⟩)
      go_round
      case rel => exact ⟨k + 1, by omega, by omega, rfl⟩
      case measure => simp [intOf]; omega
    · obtain rfl : k = y := by omega
      have hcond : ¬ dby (k + 1) ≤ t / 86400 := fun hh => absurd ((HY.out k).1 hh) (by omega)
      go_wp2_with (go_at_call 75; refine (daysAhead_any _ _ (by omega) (by omega)).mono ?_; rintro e w' ⟨rfl, rfl⟩)
      clear hcond
      go_loop [4, 6] (fun dd mm => ∃ j : Nat, 1 ≤ j ∧ j ≤ m ∧ mm = .int .i64 j ∧ dd = .int .i64 (t / 86400 - dby k - cum k j)) (fun _ mm => m - (intOf mm).toNat)
      case atStart => exact ⟨1, by omega, by omega, rfl, congrArg (Value.int .i64) (by simp [cum])⟩
      case round =>
        obtain ⟨j, hj0, hj1, rfl, rfl⟩ := hrel
        have hcb := cum_bd k j
        have hdj := dim_bd k j
        have hiff : dim k j ≤ t / 86400 - dby k - cum k j ↔ j < m := by
          have := HM.out j (by omega) (by omega)
          have e := HD.out
          omega
        by_cases hj : j < m
        · have hs : Hid (cum k ((j : Int) + 1) = cum k j + dim k j) := cum_succ k j (by omega) (by omega)
          have hcond := hiff.2 hj
          clear hiff
          go_wp2_with (go_at_call 76; refine (monthDays_any _ _ _ (by omega) (by omega) (by omega) (by omega) (hM1 _)).mono ?_; rintro e w' ⟨rfl, rfl⟩)
          go_round
          case rel => exact ⟨j + 1, by omega, by omega, by go_num, congrArg (Value.int .i64) (by rw [show ((j + 1 : Nat) : Int) = (j : Int) + 1 by omega, hs.out]; omega)⟩
          case measure => simp [intOf]; omega
        · obtain rfl : j = m := by omega
          have hcond : ¬ dim k j ≤ t / 86400 - dby k - cum k j := fun hh => hj (hiff.1 hh)
          clear hiff
          go_wp2_with (go_at_call 76; refine (monthDays_any _ _ _ (by omega) (by omega) (by omega) (by omega) (hM1 _)).mono ?_; rintro e w' ⟨rfl, rfl⟩)
          refine bodyPost_ret (v := .tuple #[civ k j (t / 86400 - dby k - cum k j + 1) (t % 86400 / 3600) (t % 86400 / 60 % 60) (t % 86400 % 60), .bool true]) (by simp [results, Tryd.results66, go_sem]) rfl ⟨?_, below_a1 _ _⟩
          exact ret_civ rfl rfl (by have := HD.out; omega) HC.out.1 HC.out.2.1 HC.out.2.2 true
end Go.Proofs.YtffjpidjhcnnmabDoor
namespace Go.Proofs.YtffjpidjhcnnmabDoor
set_option linter.unusedVariables false
set_option linter.unusedSimpArgs false
open Go.RowKit
structure Gr (W : World) where
  w : World
  h : Below W.heap.size W w
def grw (W : World) (V : Gr W) : World := V.w
theorem grw_below (W : World) (V : Gr W) : Below W.heap.size W (grw W V) := V.h
theorem grw_cell {W : World} {b : Nat} (o : Nat) (h : b < W.heap.size) (V : Gr W) : (grw W V).cell? ⟨b, o, none⟩ = W.cell? ⟨b, o, none⟩ := (grw_below W V).cell (p := ⟨b, o, none⟩) h
theorem grw_some {W : World} {b o : Nat} {v : Value} (h : W.cell? ⟨b, o, none⟩ = some v) (V : Gr W) : (grw W V).cell? ⟨b, o, none⟩ = some v := by
  rw [grw_cell o (World.block_lt_of_cell? _ _ h) V]; exact h
theorem grow_drawn (w : World) : ∃ V : Gr w, { w with drawn := w.drawn + 1 } = grw w V := ⟨⟨w.drew, (Below.refl _ w).drew⟩, rfl⟩
theorem wp_region_grow {P : Program} {id : Nat} {Q : Exit → Act → World → Prop} {a : Act} {w : World} {l : List Oper} (hm : P.follows .mixedOrders = true) (hB : Region.lexB .any l.toArray = true)
    (h : Nonempty (Gr w) → wpQuiet P l.toArray (fun w' => ∃ V, w' = grw w V) (fun a' => ∀ w', (∃ V, w' = grw w V) → Q .normal a' w') l a) : (Code.region id l.toArray true).wp P Q a w :=
  wp_region_quiet (C := fun w' => ∃ V, w' = grw w V) hm hB (grow_drawn w) (by simpa using h ⟨⟨w, Below.refl _ _⟩⟩)
theorem wp_region_grow_tail {P : Program} {id : Nat} {Q : Exit → Act → World → Prop} {a : Act} {w : World} {l : List Oper} (n : Nat) (hm : P.follows .mixedOrders = true) (hB : Region.lexTailB .any l.toArray n = true)
    (h : Nonempty (Gr w) → wpQuiet P l.toArray (fun w' => ∃ V, w' = grw w V) (fun a' => ∀ w', (∃ V, w' = grw w V) → wpList P l.toArray Q (l.drop n) a' w') (l.take n) a) : (Code.region id l.toArray true).wp P Q a w :=
  wp_region_quiet_tail (fun w' => ∃ V, w' = grw w V) n hm hB (grow_drawn w) (h ⟨⟨w, Below.refl _ _⟩⟩)
theorem grow_call {P : Program} {f : FuncId} {args : Array Value} {W : World} {V : Gr W} {v : Value}
    (h : Calls P f args (grw W V) fun e w' => e = .returned v ∧ Below (grw W V).heap.size (grw W V) w') : Calls P f args (grw W V) fun e w'' => e = .returned v ∧ ∃ V', w'' = grw W V' :=
  h.mono fun _ w'' ⟨he, hb⟩ => ⟨he, ⟨w'', below_then (grw_below W V) hb⟩, rfl⟩
theorem grow_same {P : Program} {f : FuncId} {args : Array Value} {W : World} {V : Gr W} {v : Value}
    (h : Calls P f args (grw W V) fun e w' => e = .returned v ∧ w' = grw W V) : Calls P f args (grw W V) fun e w'' => e = .returned v ∧ ∃ V', w'' = grw W V' :=
  h.mono fun _ w'' ⟨he, hb⟩ => ⟨he, V, hb⟩
theorem grow_drew {P : Program} {f : FuncId} {args : Array Value} {W : World} {V : Gr W} {v : Value}
    (h : Calls P f args (grw W V) fun e w' => e = .returned v ∧ ∃ m, w' = (grw W V).drewN m) : Calls P f args (grw W V) fun e w'' => e = .returned v ∧ ∃ V', w'' = grw W V' :=
  h.mono fun _ w'' ⟨he, m, hb⟩ => ⟨he, ⟨w'', by rw [hb]; exact (grw_below W V).trans ⟨rfl, rfl, rfl, Nat.le_refl _, fun _ _ => rfl⟩⟩, rfl⟩
end Go.Proofs.YtffjpidjhcnnmabDoor

namespace Go.Proofs.YtffjpidjhcnnmabDoor
set_option linter.unusedVariables false
set_option linter.unusedSimpArgs false
open Go.RowKit

theorem Tryd.infoU8c : (Tryd.prog.info? 5).map (fun i => (i.zero, i.size, i.bytes)) = some (some (.int .u8 0), 1, 1) := by kernel_rfl
theorem row_made2 {w w' : World} {n : Nat} (h : w'.ownsRow w.heap.size 5 1 (.slice (some ⟨w.heap.size, 0, none⟩) n n) n (List.replicate n (.int .u8 0))) : Row8 w' w.heap.size (List.replicate n 0) := by
  refine ⟨fun j hj => ?_, fun j hj => h.frozenAt j, (h.lt w.heap.size rfl).2⟩
  rw [List.length_replicate] at hj
  have := h.cells (g := w.heap.size) rfl j (.int .u8 0) (by simp [hj])
  rw [Addr.add_lit, Nat.zero_add] at this
  rw [this]; simp [List.getD, hj]
theorem wp_mk2 {ops : Array Oper} {rest : List Oper} {o : Oper} {a : Act} {Q : Exit → Act → World → Prop} {w : World} (hg : o.guard = none) (l c : Operand) (hop : o.op = Op.makeSlice 48 l c)
    (n : Nat) (L C : Int) (hl : a.eval l = .int .i64 L) (hc : a.eval c = .int .i64 C) (hL : L = (n : Int)) (hC : C = (n : Int)) (hn : n ≤ 1000000)
    (hK : ∀ w', Row8 w' w.heap.size (List.replicate n 0) → Below w.heap.size w w' → wpList Tryd.prog ops Q rest (a.put o.dst (.slice (some ⟨w.heap.size, 0, none⟩) n n)) w') :
    wpList Tryd.prog ops Q (o :: rest) a w := by
  obtain ⟨i0, hi, hz0, hz1, hz2⟩ := info_parts Tryd.infoU8c
  refine wpList_make_full w hg l c 48 hop w.heap.size 5 i0 (.int .u8 0) 1 Tryd.underlying48 hi hz0 hz1 .i64 .i64 L C n hl hc hL hC (by rw [hz2]; omega) (by unfold maxLen; omega) (Nat.le_refl _) ?_
  intro w' hown hgr
  refine hK w' (row_made2 ?_) ⟨hgr.os, hgr.tape, hgr.output, hgr.size, fun k hk => hgr.block k hk (by simp)⟩
  have e : (madeCells (Value.int .u8 0).cells (n * 1)).toList = List.replicate n (.int .u8 0) := by
    rw [Nat.mul_one]; exact toList_madeCells_one _ _
  rw [e] at hown
  exact hown
theorem dig_round {n p k : Nat} {w wr : World} (hlt : k < p) (hrow : Hid (Row8 wr w.heap.size (digRow n p k))) (hbel : Hid (Below w.heap.size w wr)) :
    Row8 (wr.setCell ⟨w.heap.size, p - 1 - k, none⟩ (.int .u8 (48 + ((n / 10 ^ k % 10 : Nat) : Int)))) w.heap.size (digRow n p (k + 1)) ∧ Below w.heap.size w (wr.setCell ⟨w.heap.size, p - 1 - k, none⟩ (.int .u8 (48 + ((n / 10 ^ k % 10 : Nat) : Int)))) := by
  refine ⟨?_, hbel.out.setCell (by simp) _⟩
  rw [digRow_succ n p k hlt]
  exact hrow.out.set _ _ (by rw [digRow_len n p k (by omega)]; omega)
set_option maxHeartbeats 1000000 in
theorem digits_any (n p : Nat) (w : World) (hp0 : 1 ≤ p) (hp : p ≤ 4) (hn : n ≤ 1000000) :
    Calls Tryd.prog 69 #[.int .i64 (n : Int), .int .i64 (p : Int)] w fun e w' => e = .returned (.string (digB n p)) ∧ Below w.heap.size w w' := by
  go_enter Tryd.func69, Tryd.ntmps69
  go_wp2_with (refine wp_mk2 rfl _ _ rfl p _ _ rfl rfl rfl rfl (by omega) ?_; intro W1 hr1 hb1; have HR := hideB2 hr1; have HB := hideB2 hb1; clear hr1 hb1)
  go_loopw [0, 10] (fun nn ii wr => ∃ k : Nat, k ≤ p ∧ ii = .int .i64 k ∧ nn = .int .i64 ((n / 10 ^ k : Nat) : Int) ∧ Row8 wr w.heap.size (digRow n p k) ∧ Below w.heap.size w wr) (fun _ ii _ => p - (intOf ii).toNat)
  case atStart => exact ⟨0, Nat.zero_le _, rfl, by simp, by rw [digRow_zero]; exact HR.out, HB.out⟩
  case round =>
    obtain ⟨k, hk, rfl, rfl, hrow, hbel⟩ := hrel
    clear HR HB
    by_cases hlt : k < p
    · have hc := hrow.cell (p - 1 - k) (by rw [digRow_len n p k hk]; omega)
      have hf := hrow.free (p - 1 - k) (by rw [digRow_len n p k hk]; omega)
      have HRR := hideB2 (dig_round hlt hrow hbel)
      have hu : Hid (n / 10 ^ (k + 1) = n / 10 ^ k / 10) := by show _ = _; rw [Nat.pow_succ, Nat.div_div_eq_div_mul]
      have hul : n / 10 ^ k ≤ 1000000 := Nat.le_trans (Nat.div_le_self _ _) hn
      have hix : ((p : Int) - 1 - (k : Int)) = ((p - 1 - k : Nat) : Int) := by omega
      clear hrow hbel
      generalize n / 10 ^ k = u at *
      generalize hq : p - 1 - k = q at *
      have HQ := hideB2 hq
      clear hq
      go_wp2
      go_roundw
      case rel => exact ⟨k + 1, by omega, by go_num, congrArg (Value.int .i64) (by rw [hu.out]; omega), HRR.out.1, HRR.out.2⟩
      case measure => simp [intOf]; omega
    · obtain rfl : k = p := by omega
      have kb := hrow.text (P := Tryd.prog) 48 5 9 k k (digRow_len n k k (Nat.le_refl _)) Tryd.underlying48 Tryd.underlying5 Tryd.underlying9
      rw [digRow_all] at kb
      go_wp2
      go_ret
      exact ⟨rfl, hbel⟩
theorem digits_at (n : Nat) (p : Int) (w : World) (h0 : 1 ≤ p) (h1 : p ≤ 4) (hn : n ≤ 1000000) :
    Calls Tryd.prog 69 #[.int .i64 (n : Int), .int .i64 p] w fun e w' => e = .returned (.string (digB n p.toNat)) ∧ Below w.heap.size w w' := by
  obtain ⟨q, rfl⟩ := Int.eq_ofNat_of_zero_le (a := p) (by omega)
  exact digits_any n q w (by omega) (by omega) hn
end Go.Proofs.YtffjpidjhcnnmabDoor
namespace Go.Proofs.YtffjpidjhcnnmabDoor
set_option linter.unusedVariables false
set_option linter.unusedSimpArgs false
open Go.RowKit

/-- A day and hour lies at the head of block b. -/
def CivAt (W : World) (b : Nat) (y m d h i s : Int) : Prop :=
  W.cell? ⟨b, 0, none⟩ = some (.int .i64 y) ∧ W.cell? ⟨b, 1, none⟩ = some (.int .i64 m) ∧ W.cell? ⟨b, 2, none⟩ = some (.int .i64 d) ∧ W.cell? ⟨b, 3, none⟩ = some (.int .i64 h) ∧ W.cell? ⟨b, 4, none⟩ = some (.int .i64 i) ∧ W.cell? ⟨b, 5, none⟩ = some (.int .i64 s)
theorem civAt_new (w : World) (y m d h i s : Int) (T : TypeId) : CivAt (w.alloc (.cells #[.int .i64 y, .int .i64 m, .int .i64 d, .int .i64 h, .int .i64 i, .int .i64 s] T)) w.heap.size y m d h i s := by
  unfold CivAt
  simp [go_sem]
theorem CivAt.grw {W : World} {b : Nat} {y m d h i s : Int} (k : CivAt W b y m d h i s) : (∀ V, (grw W V).cell? ⟨b, 0, none⟩ = some (.int .i64 y)) ∧ (∀ V, (grw W V).cell? ⟨b, 1, none⟩ = some (.int .i64 m)) ∧ (∀ V, (grw W V).cell? ⟨b, 2, none⟩ = some (.int .i64 d)) ∧ (∀ V, (grw W V).cell? ⟨b, 3, none⟩ = some (.int .i64 h)) ∧ (∀ V, (grw W V).cell? ⟨b, 4, none⟩ = some (.int .i64 i)) ∧ (∀ V, (grw W V).cell? ⟨b, 5, none⟩ = some (.int .i64 s)) :=
  ⟨grw_some k.1, grw_some k.2.1, grw_some k.2.2.1, grw_some k.2.2.2.1, grw_some k.2.2.2.2.1, grw_some k.2.2.2.2.2⟩
theorem CivAt.below {W W' : World} {b : Nat} {y m d h i s : Int} (k : CivAt W b y m d h i s) (hb : Below W.heap.size W W') : CivAt W' b y m d h i s := by
  have g := k.grw
  exact ⟨g.1 ⟨W', hb⟩, g.2.1 ⟨W', hb⟩, g.2.2.1 ⟨W', hb⟩, g.2.2.2.1 ⟨W', hb⟩, g.2.2.2.2.1 ⟨W', hb⟩, g.2.2.2.2.2 ⟨W', hb⟩⟩
set_option maxHeartbeats 2000000 in
theorem clockText_any (y m d : Int) (h i s : Nat) (w : World) (hh : h ≤ 1000) (hi : i ≤ 1000) (hs : s ≤ 1000) :
    Calls Tryd.prog 70 #[civ y m d h i s] w fun e w' => e = .returned (.string (clockB h i s)) ∧ Below w.heap.size w w' := by
  unfold clockB
  have hsz := digB_size
  have hA := below_a1 w (.cells #[.int .i64 y, .int .i64 m, .int .i64 d, .int .i64 h, .int .i64 i, .int .i64 s] 62)
  have gc := civAt_new w y m d h i s 62
  go_enter Tryd.func70, Tryd.ntmps70
  go_wp2
  generalize w.alloc (.cells #[.int .i64 y, .int .i64 m, .int .i64 d, .int .i64 h, .int .i64 i, .int .i64 s] 62) = W at *
  obtain ⟨g0, g1, g2, g3, g4, g5⟩ := gc.grw
  clear gc
  refine wp_region_grow ?_ ?_ ?_
  · kernel_rfl
  · kernel_rfl
  · intro hne
    repeat (go_big_quiet_step ((go_at_call 69; exact grow_call (digits_any _ 2 _ (by omega) (by omega) (by omega)))))
    refine wpQuiet_nil ?_
    rintro _ ⟨V, rfl⟩
    have hb := below_then hA (grw_below W V)
    go_wp2
    go_ret
    exact ⟨rfl, hb⟩
end Go.Proofs.YtffjpidjhcnnmabDoor
namespace Go.Proofs.YtffjpidjhcnnmabDoor
set_option linter.unusedVariables false
set_option linter.unusedSimpArgs false
open Go.RowKit

theorem dv_yes {b : UInt8} (h : dig8 b = true) : dv b = b.toNat - 48 := by unfold dv; rw [if_pos h]
theorem dv_no {b : UInt8} (h : dig8 b = false) : dv b = 0 := by unfold dv; rw [if_neg (by rw [h]; decide)]
set_option maxHeartbeats 1000000 in
theorem number_any (s : ByteArray) (w : World) (hs : s.size ≤ 8) :
    Calls Tryd.prog 67 #[.string s] w fun e w' => e = .returned (.int .i64 ((nval s : Nat) : Int)) ∧ w' = w := by
  go_enter Tryd.func67, Tryd.ntmps67
  go_wp2
  go_loop [3, 7] (fun n i => ∃ k : Nat, k ≤ s.size ∧ i = .int .i64 k ∧ n = .int .i64 ((valN (s.data.toList.take k) : Nat) : Int)) (fun _ i => s.size - (intOf i).toNat)
  case atStart => exact ⟨0, Nat.zero_le _, rfl, rfl⟩
  case round =>
    obtain ⟨k, hk, rfl, rfl⟩ := hrel
    have hvl : valN (s.data.toList.take k) < 100000000 := by
      have h1 := valN_lt (s.data.toList.take k)
      have h3 : 10 ^ (s.data.toList.take k).length ≤ 10 ^ 8 := Nat.pow_le_pow_right (by decide) (by simp; omega)
      have h4 : (10 : Nat) ^ 8 = 100000000 := by decide
      omega
    by_cases hlt : k < s.size
    · have hval : Hid (valN (s.data.toList.take (k + 1)) = valN (s.data.toList.take k) * 10 + dv (at8 s k)) := by
        show _ = _
        rw [allDig_take_succ s k hlt, valN_snoc]
      cases hg0 : dig8 (at8 s k)
      · have hg : digP (s[k].toNat : Int) = false := by rw [at8_eq s k hlt]; exact hg0
        have hdv := hideB2 (dv_no hg0)
        clear hg0
        generalize valN (s.data.toList.take k) = v at *
        go_wp2_with (go_at_call 55; refine (digitByte_any _ _).mono ?_; rintro e w' ⟨rfl, rfl⟩)
        go_round
        case rel => exact ⟨k + 1, by omega, by go_num, congrArg (Value.int .i64) (by rw [hval.out, hdv.out]; omega)⟩
        case measure => simp [intOf]; omega
      · have hg : digP (s[k].toNat : Int) = true := by rw [at8_eq s k hlt]; exact hg0
        have hb := (dig8_iff _).1 hg0
        have hdv : Hid (dv (at8 s k) = s[k].toNat - 48) := by show _ = _; rw [dv_yes hg0, at8_eq s k hlt]
        have hb1 : 48 ≤ s[k].toNat := by rw [at8_eq s k hlt]; exact hb.1
        have hb2 : s[k].toNat ≤ 57 := by rw [at8_eq s k hlt]; exact hb.2
        clear hg0 hb
        generalize valN (s.data.toList.take k) = v at *
        go_wp2_with (go_at_call 55; refine (digitByte_any _ _).mono ?_; rintro e w' ⟨rfl, rfl⟩)
        go_round
        case rel => exact ⟨k + 1, by omega, by go_num, congrArg (Value.int .i64) (by rw [hval.out, hdv.out]; omega)⟩
        case measure => simp [intOf]; omega
    · obtain rfl : k = s.size := by omega
      have ht : s.data.toList.take s.size = s.data.toList := List.take_of_length_le (by rw [len_data]; exact Nat.le_refl _)
      rw [ht]
      have hfin : Hid (((nval s : Nat) : Int) = ((valN s.data.toList : Nat) : Int)) := rfl
      clear ht hvl
      generalize valN s.data.toList = v at *
      go_wp2
      go_ret
      exact ⟨ret_int hfin.out, rfl⟩
set_option maxHeartbeats 4000000 in
theorem atClock_any (y m d : Int) (s : ByteArray) (w : World) (hs : s.size = 8) :
    Calls Tryd.prog 68 #[civ y m d 0 0 0, .string s] w fun e w' => e = .returned (civ y m d (nval (s.extract 0 2)) (nval (s.extract 3 5)) (nval (s.extract 6 8))) ∧ ∃ o1 o2, w' = ((w.alloc o1).alloc o2).drew := by
  have e0 : (s.extract 0 2).size ≤ 8 := by rw [ext_size s 0 2 (by omega) (by omega)]; omega
  have e1 : (s.extract 3 5).size ≤ 8 := by rw [ext_size s 3 5 (by omega) (by omega)]; omega
  have e2 : (s.extract 6 8).size ≤ 8 := by rw [ext_size s 6 8 (by omega) (by omega)]; omega
  go_enter Tryd.func68, Tryd.ntmps68
  go_wp2
  go_region_with (go_at_call 67; refine (number_any _ _ (by assumption)).mono ?_; rintro e w' ⟨rfl, rfl⟩)
  all_goals
    go_wp2
    refine bodyPost_ret (v := civ y m d (nval (s.extract 0 2)) (nval (s.extract 3 5)) (nval (s.extract 6 8))) (by simp [results, Tryd.results68, go_sem]) rfl ⟨rfl, ?_⟩
    exact ⟨_, _, rfl⟩
end Go.Proofs.YtffjpidjhcnnmabDoor
namespace Go.Proofs.YtffjpidjhcnnmabDoor
set_option linter.unusedVariables false
set_option linter.unusedSimpArgs false
open Go.RowKit
theorem below_a4 (w : World) (o o' o'' p : Obj) : Below w.heap.size w ((((w.alloc o).alloc o').alloc o'').alloc p) := (below_a3 w o o' o'').alloc (by simp; omega) p
set_option maxHeartbeats 1000000 in
theorem warcParts_no (s : ByteArray) (w : World) (hs : s.size ≠ 20) :
    Calls Tryd.prog 53 #[.string s] w fun e w' => e = .returned (civ 0 0 0 0 0 0) ∧ Below w.heap.size w w' := by
  have hb : ((s.size : Int) != 20) = true := by rw [bne_iff_ne]; omega
  clear hs
  go_enter Tryd.func53, Tryd.ntmps53
  go_wp2
  exact bodyPost_ret (v := civ 0 0 0 0 0 0) (by simp [results, Tryd.results53, go_sem]) rfl ⟨rfl, below_a1 _ _⟩
set_option maxHeartbeats 8000000 in
theorem warcParts_yes (s : ByteArray) (w : World) (hs : s.size = 20) :
    Calls Tryd.prog 53 #[.string s] w fun e w' => e = .returned (civ (nval (s.extract 0 4)) (nval (s.extract 5 7)) (nval (s.extract 8 10)) (nval ((s.extract 11 19).extract 0 2)) (nval ((s.extract 11 19).extract 3 5)) (nval ((s.extract 11 19).extract 6 8))) ∧ Below w.heap.size w w' := by
  have e0 : ((s.extract 0 4)).size ≤ 8 := by rw [ext_size s 0 4 (by omega) (by omega)]; omega
  have e1 : ((s.extract 5 7)).size ≤ 8 := by rw [ext_size s 5 7 (by omega) (by omega)]; omega
  have e2 : ((s.extract 8 10)).size ≤ 8 := by rw [ext_size s 8 10 (by omega) (by omega)]; omega
  have E3 : Hid (((s.extract 11 19)).size = 8) := by show _ = _; rw [ext_size s 11 19 (by omega) (by omega)]
  go_enter Tryd.func53, Tryd.ntmps53
  go_wp2
  go_cut [3] (fun c wc => c = .pointer (some ⟨w.heap.size + 1, 0, none⟩) ∧ wc = ((w.alloc (.cells #[.int .i64 0, .int .i64 0, .int .i64 0, .int .i64 0, .int .i64 0, .int .i64 0] 62)).alloc (.cells #[.int .i64 (nval (s.extract 0 4)), .int .i64 (nval (s.extract 5 7)), .int .i64 (nval (s.extract 8 10)), .int .i64 0, .int .i64 0, .int .i64 0] 62)).drew)
  case first =>
    go_region_with (first
      | (go_at_call 67; refine (number_any _ _ (by assumption)).mono ?_; rintro e w' ⟨rfl, rfl⟩))
    all_goals
      go_wp2_with fail
      go_meet
      exact ⟨rfl, rfl⟩
  case rest =>
    obtain ⟨rfl, rfl⟩ := hcut
    go_wp2
    go_region_with (go_at_call 68; refine (atClock_any _ _ _ _ _ E3.out).mono ?_; rintro e w1 ⟨rfl, o1, o2, rfl⟩)
    go_wp2
    exact bodyPost_ret (v := civ (nval (s.extract 0 4)) (nval (s.extract 5 7)) (nval (s.extract 8 10)) (nval ((s.extract 11 19).extract 0 2)) (nval ((s.extract 11 19).extract 3 5)) (nval ((s.extract 11 19).extract 6 8))) (by simp [results, Tryd.results53, go_sem]) rfl ⟨rfl, (below_a4 _ _ _ _ _).drew.drew.drew⟩
end Go.Proofs.YtffjpidjhcnnmabDoor
namespace Go.Proofs.YtffjpidjhcnnmabDoor
set_option linter.unusedVariables false
set_option linter.unusedSimpArgs false
open Go.RowKit

set_option maxHeartbeats 1000000 in
theorem WarcDate_no (t : Int) (w : World) (h : ¬ (0 ≤ t ∧ t ≤ 253402300799)) :
    Calls Tryd.prog 54 #[.int .i64 t] w fun e w' => e = .returned (.string ⟨#[]⟩) ∧ Below w.heap.size w w' := by
  go_enter Tryd.func54, Tryd.ntmps54
  go_wp2_with fail
  refine (CivilOf_no t _ h).mono ?_
  rintro e w1 ⟨rfl, hb1⟩
  have BW := below_then hb1 (below_a1 w1 (.cells #[.int .i64 0, .int .i64 0, .int .i64 0, .int .i64 0, .int .i64 0, .int .i64 0] 62))
  clear hb1 h
  go_wp2
  go_ret
  exact ⟨rfl, BW⟩
set_option maxHeartbeats 4000000 in
theorem WarcDate_yes (t : Int) (y m d h i s : Nat) (w : World) (hT : MonTab w) (hv : vld y m d h i s) (ht : t = secs y m d h i s) :
    Calls Tryd.prog 54 #[.int .i64 t] w fun e w' => e = .returned (.string (warcB y m d h i s)) ∧ Below w.heap.size w w' := by
  have HH := hideB2 (CivilOf_yes t y m d h i s w hT hv ht)
  have hb := secs_bd hv
  rw [← ht] at hb
  obtain ⟨ht0, ht1⟩ := hb
  have hdm := dim_bd y m
  obtain ⟨v1, v2, v3, v4, v5, v6, v7, v8, v9, v10, v11, v12⟩ := hv
  have hsz := digB_size
  have hcz := clockB_size h i s
  have hmz := monB_size (k := m) (by omega) (by omega)
  have hwd := wdN_lt t
  have hdz := dayS_size hwd
  have hbz := bday_size d
  have hDz := dayB_size hwd
  have hD1 : ((dayB (wdN t)).size : Int) ≤ 9 := by omega
  clear ht hDz
  go_enter Tryd.func54, Tryd.ntmps54
  go_wp2_with fail
  refine HH.out.mono ?_
  rintro e w1 ⟨rfl, hb1⟩
  have BW := below_then hb1 (below_a1 w1 (.cells #[.int .i64 y, .int .i64 m, .int .i64 d, .int .i64 h, .int .i64 i, .int .i64 s] 62))
  have hT1 := hT.below BW
  have gc := civAt_new w1 y m d h i s 62
  clear hb1 hT HH
  go_wp2_with fail
  generalize w1.alloc (.cells #[.int .i64 y, .int .i64 m, .int .i64 d, .int .i64 h, .int .i64 i, .int .i64 s] 62) = W at *
  have hT := hT1
  obtain ⟨g0, g1, g2, g3, g4, g5⟩ := gc.grw
  clear gc hT1
  refine wp_region_grow ?_ ?_ ?_
  · kernel_rfl
  · kernel_rfl
  · intro hne
    repeat (go_big_quiet_step (first
      | (go_at_call 69; exact grow_call (digits_at _ _ _ (by omega) (by omega) (by omega)))
      | (go_at_call 70; exact grow_call (clockText_any _ _ _ h i s _ (by omega) (by omega) (by omega)))))
    refine wpQuiet_nil ?_
    rintro _ ⟨V, rfl⟩
    have hb := below_then BW (grw_below W V)
    clear g0 g1 g2 g3 g4 g5 hT
    go_wp2
    go_ret
    exact ⟨rfl, hb⟩
end Go.Proofs.YtffjpidjhcnnmabDoor
namespace Go.Proofs.YtffjpidjhcnnmabDoor
set_option linter.unusedVariables false
set_option linter.unusedSimpArgs false
/-- What is read, where what is written again is x. -/
def rdT (a x : ByteArray) (t : Int) : Int := if eqB a x = true then t else 0
end Go.Proofs.YtffjpidjhcnnmabDoor
namespace Go.Proofs.YtffjpidjhcnnmabDoor
set_option linter.unusedVariables false
set_option linter.unusedSimpArgs false
open Go.RowKit
/-- A text and a day and hour lie at the head of block b. -/
def WrtAt (W : World) (b : Nat) (a : ByteArray) (y m d h i s : Int) : Prop :=
  W.cell? ⟨b, 0, none⟩ = some (.string a) ∧ W.cell? ⟨b, 1, none⟩ = some (.int .i64 y) ∧ W.cell? ⟨b, 2, none⟩ = some (.int .i64 m) ∧ W.cell? ⟨b, 3, none⟩ = some (.int .i64 d) ∧ W.cell? ⟨b, 4, none⟩ = some (.int .i64 h) ∧ W.cell? ⟨b, 5, none⟩ = some (.int .i64 i) ∧ W.cell? ⟨b, 6, none⟩ = some (.int .i64 s)
theorem wrtAt_new (w : World) (a : ByteArray) (y m d h i s : Int) (T : TypeId) : WrtAt (w.alloc (.cells #[.string a, .int .i64 y, .int .i64 m, .int .i64 d, .int .i64 h, .int .i64 i, .int .i64 s] T)) w.heap.size a y m d h i s := by
  unfold WrtAt
  simp [go_sem]
theorem WrtAt.grw {W : World} {b : Nat} {a : ByteArray} {y m d h i s : Int} (k : WrtAt W b a y m d h i s) : (∀ V, (grw W V).cell? ⟨b, 0, none⟩ = some (.string a)) ∧ (∀ V, (grw W V).cell? ⟨b, 1, none⟩ = some (.int .i64 y)) ∧ (∀ V, (grw W V).cell? ⟨b, 2, none⟩ = some (.int .i64 m)) ∧ (∀ V, (grw W V).cell? ⟨b, 3, none⟩ = some (.int .i64 d)) ∧ (∀ V, (grw W V).cell? ⟨b, 4, none⟩ = some (.int .i64 h)) ∧ (∀ V, (grw W V).cell? ⟨b, 5, none⟩ = some (.int .i64 i)) ∧ (∀ V, (grw W V).cell? ⟨b, 6, none⟩ = some (.int .i64 s)) :=
  ⟨grw_some k.1, grw_some k.2.1, grw_some k.2.2.1, grw_some k.2.2.2.1, grw_some k.2.2.2.2.1, grw_some k.2.2.2.2.2.1, grw_some k.2.2.2.2.2.2⟩
set_option maxHeartbeats 2000000 in
theorem timeWrittenWarcDate_no (a : ByteArray) (y m d h i s : Int) (w : World) (hM : MonTab w) (hv : vldB y m d h i s = false) :
    Calls Tryd.prog 52 #[.string a, civ y m d h i s, .func (.func 54) #[] #[]] w fun e w' => e = .returned (.tuple #[.int .i64 0, .bool false]) ∧ Below w.heap.size w w' := by
  have HH := hideB2 (fun o => SecondsOf_no y m d h i s (w.alloc o) (hM.alloc o) hv)
  clear hM hv
  go_enter Tryd.func52, Tryd.ntmps52
  go_wp2_with fail
  refine (HH.out _).mono ?_
  rintro e w1 ⟨rfl, hb1⟩
  have BW := below_then (below_a1 w _) hb1
  clear hb1 HH
  go_wp2
  go_ret2
  exact ⟨rfl, BW⟩
set_option maxHeartbeats 4000000 in
theorem timeWrittenWarcDate_yes (a x : ByteArray) (y m d h i s : Nat) (t : Int) (w : World) (hM : MonTab w) (hv : vld y m d h i s) (ht : t = secs y m d h i s)
    (hf : ∀ W, Below w.heap.size w W → Calls Tryd.prog 54 #[.int .i64 t] W fun e w' => e = .returned (.string x) ∧ Below W.heap.size W w') :
    Calls Tryd.prog 52 #[.string a, civ y m d h i s, .func (.func 54) #[] #[]] w fun e w' => e = .returned (.tuple #[.int .i64 (rdT a x t), .bool (eqB a x)]) ∧ Below w.heap.size w w' := by
  have HH := hideB2 (fun o => SecondsOf_yes y m d h i s (w.alloc o) (hM.alloc o) (vldB_iff.2 hv))
  have HC := hideB2 (fun W hW => CivilOf_yes t y m d h i s W hW hv ht)
  have HF := hideB2 hf
  rw [← ht] at HH
  clear hf hv ht
  go_enter Tryd.func52, Tryd.ntmps52
  go_wp2_with fail
  refine (HH.out _).mono ?_
  rintro e w1 ⟨rfl, hb1⟩
  have BW := below_then (below_a1 w _) hb1
  have gc := (civAt_new w y m d h i s 62).below hb1
  have hM1 := hM.below BW
  clear hb1 HH hM
  go_wp2_with fail
  refine (HC.out _ hM1).mono ?_
  rintro e w2 ⟨rfl, hb2⟩
  have gc2 := gc.below hb2
  have BW2 := below_then BW hb2
  clear gc BW hb2 hM1 HC
  have hz : w.heap.size < w2.heap.size := World.block_lt_of_cell? _ _ gc2.1
  have gc3 := fun o => gc2.below (below_a1 w2 o)
  have c0 := fun o => (gc3 o).1
  have c1 := fun o => (gc3 o).2.1
  have c2 := fun o => (gc3 o).2.2.1
  have c3 := fun o => (gc3 o).2.2.2.1
  have c4 := fun o => (gc3 o).2.2.2.2.1
  have c5 := fun o => (gc3 o).2.2.2.2.2
  clear gc2 gc3
  go_wp2_with fail
  have hA := below_a2 w2 (.cells #[.int .i64 y, .int .i64 m, .int .i64 d, .int .i64 h, .int .i64 i, .int .i64 s] 62) (.cells #[.string a, .int .i64 y, .int .i64 m, .int .i64 d, .int .i64 h, .int .i64 i, .int .i64 s] 76)
  have k1 := civAt_new w2 y m d h i s 62 |>.below (below_a1 _ (.cells #[.string a, .int .i64 y, .int .i64 m, .int .i64 d, .int .i64 h, .int .i64 i, .int .i64 s] 76))
  have k2 := wrtAt_new (w2.alloc (.cells #[.int .i64 y, .int .i64 m, .int .i64 d, .int .i64 h, .int .i64 i, .int .i64 s] 62)) a y m d h i s 76
  rw [show (w2.alloc (.cells #[.int .i64 y, .int .i64 m, .int .i64 d, .int .i64 h, .int .i64 i, .int .i64 s] 62)).heap.size = w2.heap.size + 1 by simp] at k2
  clear c0 c1 c2 c3 c4 c5
  generalize (w2.alloc (.cells #[.int .i64 y, .int .i64 m, .int .i64 d, .int .i64 h, .int .i64 i, .int .i64 s] 62)).alloc (.cells #[.string a, .int .i64 y, .int .i64 m, .int .i64 d, .int .i64 h, .int .i64 i, .int .i64 s] 76) = W at *
  have BW3 := below_then BW2 hA
  obtain ⟨g0, g1, g2, g3, g4, g5⟩ := k1.grw
  obtain ⟨q0, q1, q2, q3, q4, q5, q6⟩ := k2.grw
  clear k1 k2 BW2 hA hz
  cases he : eqB a x
  · have HE : Hid (rdT a x t = 0 ∧ eqB a x = false) := ⟨by unfold rdT; rw [he]; rfl, he⟩
    unfold eqB at he
    refine wp_region_grow ?_ ?_ ?_
    · kernel_rfl
    · kernel_rfl
    · intro hne
      repeat (go_big_quiet_step ((exact grow_call (HF.out _ (below_then BW3 (grw_below W _))))))
      refine wpQuiet_nil ?_
      rintro _ ⟨V, rfl⟩
      have hb := below_then BW3 (grw_below W V)
      clear g0 g1 g2 g3 g4 g5 q0 q1 q2 q3 q4 q5 q6 HF
      go_wp2
      go_ret2
      exact ⟨ret_ib2 HE.out.1 HE.out.2, hb⟩
  · have HE : Hid (rdT a x t = t ∧ eqB a x = true) := ⟨by unfold rdT; rw [he]; rfl, he⟩
    unfold eqB at he
    refine wp_region_grow ?_ ?_ ?_
    · kernel_rfl
    · kernel_rfl
    · intro hne
      repeat (go_big_quiet_step ((exact grow_call (HF.out _ (below_then BW3 (grw_below W _))))))
      refine wpQuiet_nil ?_
      rintro _ ⟨V, rfl⟩
      have hb := below_then BW3 (grw_below W V)
      clear g0 g1 g2 g3 g4 g5 q0 q1 q2 q3 q4 q5 q6 HF
      go_wp2
      go_ret2
      exact ⟨ret_ib2 HE.out.1 HE.out.2, hb⟩
end Go.Proofs.YtffjpidjhcnnmabDoor
namespace Go.Proofs.YtffjpidjhcnnmabDoor
set_option linter.unusedVariables false
set_option linter.unusedSimpArgs false
open Go.RowKit
set_option maxHeartbeats 1000000 in
theorem ReadWarcDate_at (a : ByteArray) (Y M D H I S t : Int) (b : Bool) (w : World) (hM : MonTab w)
    (hp : ∀ w, Calls Tryd.prog 53 #[.string a] w fun e w' => e = .returned (civ Y M D H I S) ∧ Below w.heap.size w w')
    (ht : ∀ w, MonTab w → Calls Tryd.prog 52 #[.string a, civ Y M D H I S, .func (.func 54) #[] #[]] w fun e w' => e = .returned (.tuple #[.int .i64 t, .bool b]) ∧ Below w.heap.size w w') :
    Calls Tryd.prog 38 #[.string a] w fun e w' => e = .returned (.tuple #[.int .i64 t, .bool b]) ∧ Below w.heap.size w w' := by
  have HP := hideB2 hp
  have HT := hideB2 ht
  clear hp ht
  go_enter Tryd.func38, Tryd.ntmps38
  go_wp2_with fail
  refine (HP.out _).mono ?_
  rintro e w1 ⟨rfl, hb1⟩
  have hM1 := hM.below hb1
  go_wp2_with fail
  refine (HT.out _ hM1).mono ?_
  rintro e w2 ⟨rfl, hb2⟩
  have hb := below_then hb1 hb2
  clear hb1 hb2 hM hM1 HP HT
  go_wp2
  go_ret2
  exact ⟨rfl, hb⟩
theorem ReadWarcDate_ex (a : ByteArray) : ∃ t b, Res (IsF 9999 warcF a) t b ∧ ∀ w, MonTab w → Calls Tryd.prog 38 #[.string a] w fun e w' => e = .returned (.tuple #[.int .i64 t, .bool b]) ∧ Below w.heap.size w w' := by
  by_cases hsz : a.size = 20
  · have hr := warc_reads a
    have hp := fun w => warcParts_yes a w hsz
    cases hv : vldB (nval (a.extract 0 4)) (nval (a.extract 5 7)) (nval (a.extract 8 10)) (nval ((a.extract 11 19).extract 0 2)) (nval ((a.extract 11 19).extract 3 5)) (nval ((a.extract 11 19).extract 6 8))
    · exact ⟨0, false, .inr ⟨rfl, rfl, hr.none_of hv⟩, fun w hM => ReadWarcDate_at a _ _ _ _ _ _ 0 false w hM hp (fun w hM => timeWrittenWarcDate_no a _ _ _ _ _ _ w hM hv)⟩
    · obtain ⟨y, m, d, h, i, s, e1, e2, e3, e4, e5, e6, v⟩ := nats_of hv
      rw [e1, e2, e3, e4, e5, e6] at hr
      have hp' : ∀ w, Calls Tryd.prog 53 #[.string a] w fun e w' => e = .returned (civ y m d h i s) ∧ Below w.heap.size w w' := by
        intro w
        have := hp w
        rw [e1, e2, e3, e4, e5, e6] at this
        exact this
      have ht := fun w (hM : MonTab w) => timeWrittenWarcDate_yes a (warcB y m d h i s) y m d h i s _ w hM v rfl (fun W hW => WarcDate_yes _ y m d h i s W (hM.below hW) v rfl)
      have hC := fun w hM => ReadWarcDate_at a _ _ _ _ _ _ _ _ w hM hp' ht
      cases he : eqB a (warcB y m d h i s)
      · refine ⟨0, false, .inr ⟨rfl, rfl, hr.none_ne fun hh => ?_⟩, fun w hM => ?_⟩
        · rw [hh] at he
          have := eqB_self (warcB y m d h i s)
          unfold warcF at he
          rw [this] at he
          cases he
        · have h' := hC w hM
          rw [he, show rdT a (warcB y m d h i s) (secs y m d h i s) = 0 by unfold rdT; rw [he]; rfl] at h'
          exact h'
      · refine ⟨secs y m d h i s, true, .inl ⟨rfl, y, m, d, h, i, s, v, by have := (vbd v).2.1; omega, rfl, eqB_iff.1 he⟩, fun w hM => ?_⟩
        have h' := hC w hM
        rw [he, show rdT a (warcB y m d h i s) (secs y m d h i s) = secs y m d h i s by unfold rdT; rw [he]; rfl] at h'
        exact h'
  · have hp := fun w => warcParts_no a w hsz
    exact ⟨0, false, .inr ⟨rfl, rfl, fun t ⟨y, m, d, h, i, s, _, _, _, ea⟩ => hsz (by rw [ea]; exact warc_size _ _ _ _ _ _)⟩, fun w hM => ReadWarcDate_at a _ _ _ _ _ _ 0 false w hM hp (fun w hM => timeWrittenWarcDate_no a 0 0 0 0 0 0 w hM (by decide))⟩
end Go.Proofs.YtffjpidjhcnnmabDoor
namespace Go.Proofs.YtffjpidjhcnnmabDoor
set_option linter.unusedVariables false
set_option linter.unusedSimpArgs false
open Go.RowKit
theorem Tryd.infoLn : (Tryd.prog.info? 56).map (·.size) = some 2 := by kernel_rfl
set_option maxRecDepth 100000 in
set_option maxHeartbeats 4000000 in
theorem readLooseLine_any (t : ByteArray) (w : World) (ht : t.size ≤ 1048576) :
    Calls Tryd.prog 37 #[.string t] w fun e w' => e = .returned (.tuple #[.agg #[.string (llnV t).1, .string (llnV t).2], .bool (llnO t)]) ∧ Below w.heap.size w w' := by
  have HC := hideB2 (fun W => CutS_any t 58 W (by unfold maxLen; omega))
  have z1 := uptS_size 58 t
  have z2 := bhS_size 58 t
  have HF := hideB2 (fun W => Fold_any (uptS 58 t) W (by unfold maxLen; omega))
  have HT := hideB2 (fun W => Trim_any (bhS 58 t) W (by unfold maxLen; omega))
  have HK := hideB2 (fun W => Token_any (uptS 58 t) W (by unfold maxLen; omega))
  have z3 := trimB_size (bhS 58 t)
  have HP := hideB2 (fun W => plainText_any (trimB (bhS 58 t)) W (by unfold maxLen; omega))
  show Calls _ _ _ _ fun e w' => e = .returned (.tuple #[.agg #[.string (foldB (uptS 58 t)), .string (trimB (bhS 58 t))], .bool (hasS 58 t && tokB (uptS 58 t) && plnB (trimB (bhS 58 t)))]) ∧ Below w.heap.size w w'
  have A0 := hideB2 (Blk.new w #[.string ⟨#[]⟩, .string ⟨#[]⟩] 56)
  have HB0 := hideB2 (below_a1 w (.cells #[.string ⟨#[]⟩, .string ⟨#[]⟩] 56))
  generalize hasS 58 t = fo at *
  generalize tokB (uptS 58 t) = tk at *
  generalize plnB (trimB (bhS 58 t)) = pl at *
  generalize foldB (uptS 58 t) = x at *
  generalize trimB (bhS 58 t) = y at *
  generalize uptS 58 t = u at *
  generalize bhS 58 t = v at *
  clear z1 z2 z3
  cases fo <;> cases tk <;> cases pl
  all_goals
    go_enter Tryd.func37, Tryd.ntmps37
    go_wp2_with fail
    refine (HC.out _).mono ?_
    rintro e w1 ⟨rfl, hb1⟩
    have A1 := hideB2 (A0.out.later hb1)
    have HB1 := hideB2 (below_then HB0.out hb1)
    clear hb1
    go_wp2_with fail
    refine (HF.out _).mono ?_
    rintro e w2 ⟨rfl, hb2⟩
    have A2 := hideB2 (A1.out.later hb2)
    have HB2 := hideB2 (below_then HB1.out hb2)
    clear hb2
    go_wp2_with fail
    refine (HT.out _).mono ?_
    rintro e w3 ⟨rfl, rfl⟩
    have A3 := hideB2 (A2.out.alloc (.cells #[.string x, .string y] 56))
    have B3 := hideB2 (Blk.new w3 #[.string x, .string y] 56)
    have HB3 := hideB2 (below_then HB2.out (below_a1 w3 (.cells #[.string x, .string y] 56)))
    obtain ⟨p0, p1⟩ := B3.out.c2
    have f0 := A3.out.free 0
    have f1 := A3.out.free 1
    obtain ⟨q0, q1⟩ := A3.out.c2
    have hlt := (A2.out).lt
    have hne : w.heap.size ≠ w3.heap.size := by omega
    have hne' : w3.heap.size ≠ w.heap.size := by omega
    clear A0 A1 A2 HB0 HB1 HB2
    go_wp2
    refine wp_region_strag (fun w' => ∃ m, w' = (w3.alloc (.cells #[.string x, .string y] 56)).drewN m) 11 10 ?_ ?_ rfl (fun a v hy => pick_pure rfl _ ⟨0, rfl⟩ a v hy) ?_ ⟨1, rfl⟩ ?_
    · kernel_rfl
    · kernel_rfl
    · intro v c a w h; exact h
    simp only [List.take_succ_cons, List.take_zero, List.drop_succ_cons, List.drop_zero]
    repeat (go_big_quiet_step (first | (go_at_call 41; exact Calls.quiet_of_same (HK.out _)) | (go_at_call 51; exact Calls.quiet_of_same (HP.out _))))
    refine wpQuiet_nil ?_
    rintro _ ⟨nq, rfl⟩
    go_wp2
    refine bodyPost_ret (results_cellT rfl _ _ _ rfl ((A3.out.drewN nq).set2 _ _) Tryd.underlying56 Tryd.infoLn) rfl ⟨rfl, ?_⟩
    exact ((below_drewN HB3.out nq).setCell (p := ⟨w.heap.size, 0, none⟩) (Nat.le_refl _) _).setCell (p := ⟨w.heap.size, 1, none⟩) (Nat.le_refl _) _
end Go.Proofs.YtffjpidjhcnnmabDoor
