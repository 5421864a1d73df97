/-
  Chapter 7: a host's pieces turned, and the form of the index; both sides.
-/
import Derived.Test.YtefhpjipcdmbaabGreatDoorU8
namespace Go.Proofs.YtefhpjipcdmbaabGreatDoor
set_option linter.unusedVariables false
set_option linter.unusedSimpArgs false
open Go.RowKit
/-- The pieces from the last to the first, with a byte between. -/
def turnB (h : ByteArray) (c d : UInt8) : ByteArray := joinS d (splS c h).reverse
theorem sumS_app (a b : List ByteArray) : sumS (a ++ b) = sumS a + sumS b := by
  unfold sumS; rw [List.map_append, List.sum_append]
theorem sumS_rev (l : List ByteArray) : sumS l.reverse = sumS l := by
  unfold sumS; rw [List.map_reverse, List.sum_reverse]
theorem turnB_size (h : ByteArray) (c d : UInt8) : (turnB h c d).size ≤ 2 * h.size + 1 := by
  have h1 := joinS_size d (splS c h).reverse
  have h2 := splS_le c h
  rw [List.length_reverse, sumS_rev] at h1
  unfold turnB
  omega
theorem setCells_row (g : Nat) (t : TypeId) : ∀ (vs : List Value) (o : Nat) (w : World) (cur : Array Value), w.heap[g]? = some (.cells cur t (0, 0)) → o + vs.length ≤ cur.size → (w.setCells g o vs).heap[g]? = some (.cells (cur.toList.take o ++ vs ++ cur.toList.drop (o + vs.length)).toArray t (0, 0))
  | [], o, w, cur, h, hl => by
    show w.heap[g]? = _
    rw [h]
    simp
  | v :: r, o, w, cur, h, hl => by
    have hb : Blk w g cur t := h
    have h1 : (w.setCell ⟨g, o, none⟩ v).heap[g]? = some (.cells (cur.setIfInBounds o v) t (0, 0)) := hb.set o v
    have hlen : o < cur.toList.length := by simp at hl ⊢; omega
    have ih := setCells_row g t r (o + 1) (w.setCell ⟨g, o, none⟩ v) _ h1 (by simp at hl ⊢; omega)
    show ((w.setCell ⟨g, o, none⟩ v).setCells g (o + 1) r).heap[g]? = _
    rw [ih]
    congr 3
    rw [Array.toList_setIfInBounds]
    rw [List.take_succ_eq_append_getElem (by rw [List.length_set]; exact hlen), List.getElem_set_self, List.take_set_of_le (Nat.le_refl _), List.drop_set_of_lt (by omega)]
    simp [Nat.add_assoc, Nat.add_comm 1]
theorem below_setCells {B g : Nat} {w0 : World} : ∀ {w : World}, Below B w0 w → B ≤ g → ∀ (vs : List Value) (o : Nat), Below B w0 (w.setCells g o vs)
  | _, h, _, [], _ => h
  | _, h, hg, v :: r, o => below_setCells (h.setCell (p := ⟨g, o, none⟩) hg v) hg r (o + 1)
theorem Reverse_any (w0 w : World) (v : Value) (l : List ByteArray) (hb : BufS w0 w v l) (hl : l.length ≤ 1048577) (hne : l ≠ []) :
    Calls Tryz.prog 73 #[v] w fun e w' => e = .returned (.tuple #[]) ∧ BufS w0 w' v l.reverse := by
  obtain ⟨g, cap, rfl, hg, hlt, hc⟩ := hb.cells (List.length_pos_iff.2 hne)
  rcases hb.own.2 with ⟨h1, _⟩ | ⟨g', cap', cur, h1, _, hh, hcap, hmx, hcs, ht⟩
  · cases h1
  · injection h1 with e1 e2 e3
    injection e1 with e1
    injection e1 with e1
    subst e1 e3
    have hf : ∀ j, j < l.length → w.frozen? ⟨g, 0 + j, none⟩ = false := fun j hj => (show Blk w g cur 9 from hh).free _
    have h := Any.slices_Reverse_string_cells Tryz.laysRev g 0 l.length cap (fun i => l.getD i ⟨#[]⟩) w (by omega) (fun i hi => by rw [Nat.zero_add]; exact hc i hi) hf
    refine h.mono ?_
    rintro e w' ⟨rfl, q, rfl⟩
    refine ⟨rfl, ?_⟩
    have hst : (Lib.strsOf (fun i => l.getD i ⟨#[]⟩) l.length).reverse.map encStr = l.reverse.map Value.string := by
      have e : Lib.strsOf (fun i => l.getD i ⟨#[]⟩) l.length = l.map (·.data.toList) := by
        apply List.ext_getElem
        · rw [Lib.strsOf_length, List.length_map]
        · intro i h1 h2
          rw [List.length_map] at h2
          unfold Lib.strsOf
          simp [List.getElem?_eq_getElem h2]
      rw [e, ← List.map_reverse, List.map_map]
      apply List.map_congr_left
      intro x _
      rfl
    rw [hst]
    have hlr : (l.reverse.map Value.string).length = l.length := by simp
    have hrow := setCells_row g 9 (l.reverse.map Value.string) 0 (w.drewN q) cur hh (by rw [hlr]; omega)
    refine ⟨below_setCells (below_drewN hb.below q) hg _ 0, by simp, .inr ⟨g, cap, _, by rw [List.length_reverse], hg, hrow, by rw [List.length_reverse]; exact hcap, hmx, ?_, ?_⟩⟩
    · simp
      have : cur.size = cap * 1 := hcs
      omega
    · simp
set_option maxHeartbeats 2000000 in
theorem turnedHost_any (h : ByteArray) (c d : UInt8) (w : World) (hs : h.size ≤ 1048576) :
    Calls Tryz.prog 39 #[.string h, .string ⟨#[c]⟩, .string ⟨#[d]⟩] w fun e w' => e = .returned (.string (turnB h c d)) ∧ Below w.heap.size w w' := by
  have HSP := hideB2 (fun W => SplitS_any h c W hs)
  have hls := (splS_le c h)
  have hne := splS_ne c h
  have hz := turnB_size h c d
  unfold turnB at hz ⊢
  generalize splS c h = L at *
  have HRV := hideB2 (fun w0 w1 v (hb : BufS w0 w1 v L) => Reverse_any w0 w1 v L hb (by omega) hne)
  have HJ := hideB2 (fun w0 w1 v (hb : BufS w0 w1 v L.reverse) => JoinS_any w0 w1 v d _ hb (by rw [List.length_reverse]; omega) (by omega))
  clear hls hne hz
  generalize L.reverse = LR at *
  generalize joinS d LR = R at *
  go_enter Tryz.func39, Tryz.ntmps39
  go_wp2_with (first | (go_at_call 46; refine (HSP.out _).mono ?_; rintro e w5 ⟨v5, rfl, hb5⟩) | (go_at_call 73; refine (HRV.out _ _ _ hb5).mono ?_; rintro e w6 ⟨rfl, hb6⟩) | (go_at_call 48; refine (HJ.out _ _ _ hb6).mono ?_; rintro e w7 ⟨rfl, hb7⟩))
  go_ret
  exact ⟨rfl, below_then hb6.below hb7⟩
/-- The same, as the specification puts it together: no byte ahead while there is nothing. -/
def trnS (d : UInt8) (s x : ByteArray) : ByteArray := (if s.size = 0 then s else s ++ (⟨#[d]⟩ : ByteArray)) ++ x
def trnF (d : UInt8) (l : List ByteArray) : ByteArray := l.foldl (trnS d) ⟨#[]⟩
theorem trnF_snoc (d : UInt8) (l : List ByteArray) (x : ByteArray) : trnF d (l ++ [x]) = trnS d (trnF d l) x := by simp [trnF]
theorem trnF_from (d : UInt8) : ∀ (l : List ByteArray) (s : ByteArray), s.size ≠ 0 → l.foldl (trnS d) s = s ++ (⟨(tailS d l).toArray⟩ : ByteArray)
  | [], s, _ => by rw [List.foldl_nil]; exact (bytes_nil_right s).symm
  | x :: r, s, h => by
    rw [List.foldl_cons]
    have e : trnS d s x = (s ++ (⟨#[d]⟩ : ByteArray)) ++ x := by unfold trnS; rw [if_neg h]
    rw [e, trnF_from d r _ (by rw [ByteArray.size_append, ByteArray.size_append]; omega)]
    apply bytes_ext
    rw [Go.Joins.data_append, Go.Joins.data_append, Go.Joins.data_append, Go.Joins.data_append]
    show _ = s.data.toList ++ tailS d (x :: r)
    rw [tailS_cons]
    simp
theorem trnF_join (d : UInt8) (x : ByteArray) (r : List ByteArray) (h : x.size ≠ 0) : trnF d (x :: r) = joinS d (x :: r) := by
  unfold trnF
  rw [List.foldl_cons]
  have e : trnS d ⟨#[]⟩ x = x := by unfold trnS; rw [if_pos (show (⟨#[]⟩ : ByteArray).size = 0 from rfl)]; exact bytes_nil_left x
  rw [e, trnF_from d r x h]
  apply bytes_ext
  have h2 := joinS_tail d x r
  rw [tailS_cons] at h2
  rw [Go.Joins.data_append]
  show x.data.toList ++ tailS d r = _
  injection h2 with _ h2
  exact h2.symm
theorem trnF_size (d : UInt8) (l : List ByteArray) : (trnF d l).size ≤ l.length + sumS l := by
  refine snoc_ind (p := fun l => (trnF d l).size ≤ l.length + sumS l) ?_ ?_ l
  · show (0 : Nat) ≤ _; omega
  · intro q x ih
    rw [trnF_snoc]
    have e : sumS (q ++ [x]) = sumS q + x.size := by simp [sumS]
    rw [List.length_append, List.length_singleton, e]
    unfold trnS
    split
    · rw [ByteArray.size_append]; omega
    · rw [ByteArray.size_append, ByteArray.size_append]
      have e1 : (⟨#[d]⟩ : ByteArray).size = 1 := rfl
      omega
def turnS (h : ByteArray) (c d : UInt8) : ByteArray := trnF d (splS c h).reverse
set_option maxRecDepth 100000 in
set_option maxHeartbeats 4000000 in
theorem l7turned_any (h : ByteArray) (c d : UInt8) (w : World) (hs : h.size ≤ 1048576) :
    Calls Tryz.prog 36 #[.string h, .int .u8 (c.toNat : Int), .string ⟨#[d]⟩] w fun e w' => e = .returned (.string (turnS h c d)) ∧ Below w.heap.size w w' := by
  have HSP := hideB2 (fun W => l7split_any h c W hs)
  have hls := splS_le c h
  have HNX := hideB2 (fun (k : Nat) (hk : k < (splS c h).length) => show trnF d ((splS c h).reverse.take (k + 1)) = trnS d (trnF d ((splS c h).reverse.take k)) ((splS c h).getD ((splS c h).length - 1 - k) ⟨#[]⟩) by
    have h1 : k < (splS c h).reverse.length := by rw [List.length_reverse]; exact hk
    rw [List.take_succ_eq_append_getElem h1, trnF_snoc, List.getElem_reverse, List.getD, List.getElem?_eq_getElem (by omega)]
    rfl)
  have HSZ := hideB2 (fun (k : Nat) => show (trnF d ((splS c h).reverse.take k)).size ≤ 2097153 by
    have h1 := trnF_size d ((splS c h).reverse.take k)
    have h2 : sumS ((splS c h).reverse.take k) ≤ sumS (splS c h) := by
      have := congrArg sumS (List.take_append_drop k (splS c h).reverse)
      rw [sumS_rev] at this
      rw [sumS_app] at this
      omega
    have h3 : ((splS c h).reverse.take k).length ≤ (splS c h).length := by rw [List.length_take, List.length_reverse]; omega
    omega)
  have HXZ := hideB2 (fun j (hj : j < (splS c h).length) => show ((splS c h).getD j ⟨#[]⟩).size ≤ 1048576 by
    rw [List.getD, List.getElem?_eq_getElem hj]
    have := sumS_mem (List.getElem_mem hj)
    simp only [Option.getD_some]
    omega)
  have HEN := hideB2 (show trnF d ((splS c h).reverse.take (splS c h).length) = turnS h c d by unfold turnS; rw [List.take_of_length_le (by rw [List.length_reverse]; exact Nat.le_refl _)])
  have HZ0 := hideB2 (show trnF d ((splS c h).reverse.take 0) = ⟨#[]⟩ from rfl)
  generalize turnS h c d = R at *
  have hd1 : (⟨#[d]⟩ : ByteArray).size = 1 := rfl
  generalize hDD : (⟨#[d]⟩ : ByteArray) = DD at *
  have HDD := hideB2 hDD
  clear hDD
  generalize hF : (fun k => trnF d ((splS c h).reverse.take k)) = F at *
  have HF := hideB2 (fun k => congrFun hF k)
  have HNX2 := hideB2 (fun (k : Nat) (hk : k < (splS c h).length) => show F (k + 1) = (if (F k).size = 0 then F k else F k ++ DD) ++ (splS c h).getD ((splS c h).length - 1 - k) ⟨#[]⟩ by
    rw [← HF.out (k + 1), ← HF.out k, ← HDD.out]; exact HNX.out k hk)
  have HSZ2 := hideB2 (fun k => show (F k).size ≤ 2097153 by rw [← HF.out k]; exact HSZ.out k)
  have HEN2 := hideB2 (show F (splS c h).length = R by rw [← HF.out]; exact HEN.out)
  have HZ2 := hideB2 (show F 0 = ⟨#[]⟩ by rw [← HF.out]; exact HZ0.out)
  clear hF HF HNX HSZ HEN HZ0
  generalize splS c h = L at *
  go_enter Tryz.func36, Tryz.ntmps36
  go_wp2_with fail
  refine (HSP.out _).mono ?_
  rintro e w1 ⟨v1, rfl, hbuf⟩
  have HB := hideB2 hbuf.below
  have hcells := fun (h : 0 < L.length) => hbuf.cells h
  obtain ⟨a, c0, rfl⟩ := hbuf.form
  have HC := hideB2 (show ∀ j, j < L.length → ∃ g, a = some ⟨g, 0, none⟩ ∧ w1.cell? ⟨g, j, none⟩ = some (.string (L.getD j ⟨#[]⟩)) from fun j hj => by
    obtain ⟨g, cap, e, _, hlt, hc⟩ := hcells (by omega)
    injection e with e1
    exact ⟨g, e1, hc j hj⟩)
  clear hcells hbuf HSP
  generalize L.length = n at *
  have e1 : IntKind.i64.wrap ((n : Int) - 1) = (n : Int) - 1 := by rw [IntKind.wrap_i64]; omega
  go_wp2
  go_loop [8, 9] (fun sv iv => ∃ k : Nat, k ≤ n ∧ iv = .int .i64 ((n : Int) - 1 - (k : Int)) ∧ sv = .string (F k)) (fun _ iv => (intOf iv + 1).toNat)
  case atStart => exact ⟨0, Nat.zero_le _, by simp, by rw [HZ2.out]⟩
  case round =>
    obtain ⟨k, hk, rfl, rfl⟩ := hrel
    have hsz := HSZ2.out k
    by_cases hlt : k < n
    · have hnx := HNX2.out k hlt
      obtain ⟨g, rfl, p0⟩ := HC.out (n - 1 - k) (by omega)
      have hxz := HXZ.out (n - 1 - k) (by omega)
      generalize L.getD (n - 1 - k) ⟨#[]⟩ = x at *
      have ei : (n : Int) - 1 - (k : Int) = ((n - 1 - k : Nat) : Int) := by omega
      rw [ei]
      have HEI := hideB2 ei
      have c0 : (0 : Int) ≤ ((n - 1 - k : Nat) : Int) := by omega
      have c1 : ((n - 1 - k : Nat) : Int) < (n : Int) := by omega
      have e2 : IntKind.i64.wrap (((n - 1 - k : Nat) : Int) - 1) = ((n - 1 - k : Nat) : Int) - 1 := by rw [IntKind.wrap_i64]; omega
      clear ei
      by_cases h0 : (F k).size = 0
      · rw [if_pos h0] at hnx
        have HNXX := hideB2 hnx
        have hne := empty_of h0
        clear hnx h0
        generalize F k = y at *
        generalize hm : n - 1 - k = m at *
        have HM := hideB2 hm
        clear hm
        go_wp2
        go_round
        case rel => exact ⟨k + 1, by omega, by have := HM.out; first | (congr 1; omega) | (simp; omega), by rw [HNXX.out]⟩
        case measure => have := HM.out; simp [intOf] <;> omega
      · rw [if_neg h0] at hnx
        have HNXX := hideB2 hnx
        have hne := nonempty_of h0
        clear hnx h0
        have hsz2 : (F k ++ DD).size ≤ 2097154 := by rw [ByteArray.size_append]; omega
        generalize F k = y at *
        generalize hm : n - 1 - k = m at *
        have HM := hideB2 hm
        clear hm
        go_wp2
        go_round
        case rel => exact ⟨k + 1, by omega, by have := HM.out; first | (congr 1; omega) | (simp; omega), by rw [HNXX.out]⟩
        case measure => have := HM.out; simp [intOf] <;> omega
    · obtain rfl : k = n := by omega
      have HE := hideB2 HEN2.out
      have c0 : ¬ ((0 : Int) ≤ (k : Int) - 1 - (k : Int)) := by omega
      go_wp2
      go_ret
      exact ⟨ret_str HE.out.symm, HB.out⟩
end Go.Proofs.YtefhpjipcdmbaabGreatDoor
