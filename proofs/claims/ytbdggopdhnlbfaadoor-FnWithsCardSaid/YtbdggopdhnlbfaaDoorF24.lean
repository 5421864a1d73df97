/-
  What goes from end to end goes so again: on lists; the draw and the comparison of FnHops.
-/
import Derived.Test.YtbdggopdhnlbfaaDoorF23
import Derived.Test.YtbdggopdhnlbfaaDoorF12
namespace Go.Proofs.YtbdggopdhnlbfaaDoor
set_option linter.unusedVariables false
set_option linter.unusedSimpArgs false
open Go.RowKit
theorem low8_twice (b : UInt8) : low8 (low8 b) = low8 b := by
  apply UInt8.toNat_inj.1
  have h1 := low8_toNat (low8 b)
  have h2 := low8_toNat b
  have h3 : lowI (lowI (b.toNat : Int)) = lowI (b.toNat : Int) := by
    unfold lowI
    by_cases h : 65 ≤ (b.toNat : Int) ∧ (b.toNat : Int) ≤ 90
    · rw [if_pos h, if_neg (by omega)]
    · rw [if_neg h, if_neg h]
  rw [h2, h3, ← h2] at h1
  omega
theorem foldB_twice (s : ByteArray) : foldB (foldB s) = foldB s := by
  apply bytes_ext
  show ((s.data.toList.map low8).map low8) = s.data.toList.map low8
  rw [List.map_map]
  exact List.map_congr_left fun b _ => low8_twice b
theorem hopTo_base (W : List ByteArray) : ∀ t ∈ base7, t ∈ hopTo W := by
  unfold hopTo
  have : ∀ (W M : List ByteArray), (∀ t ∈ base7, t ∈ M) → ∀ t ∈ base7, t ∈ W.foldl hopStep M := by
    intro W
    induction W with
    | nil => intro M h; exact h
    | cons s W ih =>
      intro M h
      refine ih _ (fun t ht => ?_)
      unfold hopStep
      split
      · exact (mem_putM _ _ _).2 (.inr (h t ht))
      · exact h t ht
  exact this W base7 (fun t ht => ht)
theorem base7_fold : ∀ t ∈ base7, foldB t = t := by unfold base7 cnB; decide
theorem hopTo_fold (W : List ByteArray) : ∀ t ∈ hopTo W, foldB t = t := by
  unfold hopTo
  have : ∀ (W M : List ByteArray), (∀ t ∈ M, foldB t = t) → ∀ t ∈ W.foldl hopStep M, foldB t = t := by
    intro W
    induction W with
    | nil => intro M h; exact h
    | cons s W ih =>
      intro M h
      refine ih _ (fun t ht => ?_)
      unfold hopStep at ht
      split at ht
      · rcases (mem_putM _ _ _).1 ht with rfl | ht
        · exact foldB_twice s
        · exact h t ht
      · exact h t ht
  exact this W base7 base7_fold
theorem hopL_fold (l : List Fd) : ∀ t ∈ hopL l, foldB t = t := by
  unfold hopL
  split
  · exact hopTo_fold _
  · intro t ht; simp at ht
theorem hopTo_none : hopTo (elsB (joinB [])) = base7 := by kernel_rfl
theorem elseL_all {l : List Fd} {N : List ByteArray} (h : ∀ x ∈ l, inNl N (foldB x.1) = false) : elseL l N = l := by
  unfold elseL
  rw [List.filter_eq_self]
  intro x hx; rw [h x hx]; rfl
/-- What goes from end to end goes so again. -/
theorem e2eL_twice (l : List Fd) : e2eL (e2eL l) = e2eL l := by
  cases hq : fieldsQ l
  · have h0 : e2eL l = [] := by unfold e2eL; rw [hq]; rfl
    rw [h0]
    unfold e2eL
    split
    · rfl
    · rfl
  · have hX := e2eL_hop hq
    rw [hX]
    have hN : hopL l = hopTo (hopW l) := by unfold hopL; rw [if_pos hq]
    have hnot : ∀ x ∈ elseL l (hopL l), inNl (hopL l) (foldB x.1) = false := by
      intro x hx
      have := (List.mem_filter.1 hx).2
      simpa using this
    have hqX : fieldsQ (elseL l (hopL l)) = true := by
      obtain ⟨h1, h2⟩ := fieldsQ_iff.1 hq
      exact fieldsQ_iff.2 ⟨Nat.le_trans (elseL_len _ _) h1, fun x hx => h2 x (List.mem_filter.1 hx).1⟩
    have hb : ∀ x ∈ elseL l (hopL l), foldB x.1 ∉ base7 := by
      intro x hx hm
      have := hopTo_base (hopW l) _ hm
      rw [← hN] at this
      have h2 := hnot x hx
      rw [inNl_iff.2 this] at h2; cases h2
    generalize elseL l (hopL l) = X at *
    have hv : valuesL X cnB = [] := by
      unfold valuesL valsOf
      rw [if_pos hqX, List.map_eq_nil_iff, List.filter_eq_nil_iff]
      intro x hx hn
      have hn := eqB_iff.1 hn
      refine hb x hx ?_
      rw [hn, base7_fold cnB (by unfold base7; simp)]
      unfold base7; simp
    have hh : hopL X = base7 := by
      unfold hopL hopW
      rw [if_pos hqX, hv, hopTo_none]
    rw [e2eL_hop hqX, hh]
    refine elseL_all fun x hx => ?_
    cases hi : inNl base7 (foldB x.1) with
    | false => rfl
    | true => exact absurd (inNl_iff.1 hi) (hb x hx)
theorem elseL_at (l : List Fd) (N : List ByteArray) (i : Nat) (hi : i < l.length) (h : inNl N (foldB (fdAt l i).1) = false) : (elseL (l.take i) N).length < (elseL l N).length ∧ fdAt (elseL l N) (elseL (l.take i) N).length = fdAt l i := by
  have e : elseL l N = elseL (l.take i) N ++ fdAt l i :: elseL (l.drop (i + 1)) N := by
    have h1 : l = l.take i ++ fdAt l i :: l.drop (i + 1) := by
      rw [fdAt_get hi]
      simp
    conv => lhs; rw [h1]
    unfold elseL
    rw [List.filter_append, List.filter_cons_of_pos (by rw [h]; rfl)]
  refine ⟨by rw [e]; simp, ?_⟩
  rw [e]
  unfold fdAt
  simp
theorem inNl_next (N : List ByteArray) (s : ByteArray) (k : Nat) (h : k < N.length) : inNl (N.take (k + 1)) s = (inNl (N.take k) s || eqB s (txAt N k)) := by
  unfold inNl
  rw [List.take_succ_eq_append_getElem h, List.any_append, txAt_get h]
  unfold eqB
  rw [ByteArray.toList_eq, ByteArray.toList_eq]; simp
theorem fields_eq (d s : ByteArray) : (d.toList == d.toList) = true ∧ (s.toList == s.toList) = true := by simp
set_option maxHeartbeats 1000000 in
theorem sameFields_same (va vb : Value) (l : List Fd) (w : World) (ha : SlF w va l) (hb : SlF w vb l) (hm : l.length ≤ 1048576) :
    Calls Tryd.prog 41 #[va, vb] w fun e w' => e = .returned (.bool true) ∧ Below w.heap.size w w' := by
  obtain ⟨a1, c1, rfl⟩ := ha.form
  obtain ⟨a2, c2, rfl⟩ := hb.form
  have HA := hideB2 ha
  have HB := hideB2 hb
  clear ha hb
  generalize hn : l.length = n at *
  have HN := hideB2 hn
  clear hn
  have heq : ((n : Int) == (n : Int)) = true := by simp
  go_enter Tryd.func41, Tryd.ntmps41
  go_wp2
  go_loopw [5] (fun i wr => ∃ k : Nat, k ≤ n ∧ i = .int .i64 (k : Int) ∧ Below w.heap.size w wr) (fun i _ => n - (intOf i).toNat)
  case atStart => exact ⟨0, Nat.zero_le _, rfl, Below.refl _ _⟩
  case round =>
    obtain ⟨k, hk, rfl, hbw⟩ := hrel
    by_cases hlt : k < n
    · have hI : (k : Int) < (n : Int) := by omega
      obtain ⟨b1, rfl, hr1⟩ := HA.out.row (by rw [HN.out]; omega)
      obtain ⟨b2, rfl, hr2⟩ := HB.out.row (by rw [HN.out]; omega)
      have p0 := (hr1.keep hbw).dat k (by rw [HN.out]; exact hlt)
      have p1 := (hr1.keep hbw).saf k (by rw [HN.out]; exact hlt)
      have q0 := (hr2.keep hbw).dat k (by rw [HN.out]; exact hlt)
      have q1 := (hr2.keep hbw).saf k (by rw [HN.out]; exact hlt)
      clear hr1 hr2
      generalize fdAt l k = x at *
      obtain ⟨d, s⟩ := x
      simp only at p0 p1 q0 q1
      obtain ⟨hdd, hss⟩ := fields_eq d s
      have HBW := hideB2 hbw
      clear hbw
      go_wp2
      go_quiet (fail)
      go_wp2
      go_round
      case rel => exact ⟨k + 1, by omega, by go_num, Below.drewNs HBW.out _⟩
      case measure => simp [intOf]; omega
    · have hd : decide ((k : Int) < (n : Int)) = false := by simp; omega
      go_wp2
      go_ret
      exact ⟨rfl, hbw⟩
end Go.Proofs.YtbdggopdhnlbfaaDoor
