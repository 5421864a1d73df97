/-
  Chapter 7: a host's pieces turned, and the form of the index; both sides. · Chapter 7: the form of the index; both sides. · The walks over chapter 1: ReadDec. · The walks over chapter 1: Fold, SameFold. · Blocks of two cells, results in cells: of no chapter. · Chapter 7: an address read; lists, and the program's parts. · What every frame of this seat shares. · An address that comes in by value, opened; copies and sizes in the laws. · Chapter 7: an address read; the program's side. · Chapter 7: an address read; the specification's side. · Chapter 7: an address in its one form; both sides; addresses held against each other. · Chapter 7: an address read off its place in the index, on lists. · Chapter 7: an address read off its place in the index; the program's side.
-/
import Derived.Test.YtmhohponikolfabGreatDoorJ3
import Derived.Test.YtmhohponikolfabGreatDoorJ0
import Derived.Test.YtmhohponikolfabGreatDoorJ1
import Derived.OwnWalk
import Derived.Laws.ResultCell
import Derived.Laws.OwnMore
import Derived.Deep.RegionWith
import Derived.Test.YtmhohponikolfabGreatDoorJ2
import Derived.Deep.DeepCutAuto
import Derived.Test.YtmhohponikolfabGreatDoorRows
import Derived.WalkKit
import Derived.ProofKit
import Derived.OpenShut
import Derived.ShutString
import Derived.ChangeOld
import Derived.Below
import Derived.Lib.SmallJoins
import Derived.Deep.SlicePairs
namespace Go.Proofs.YtmhohponikolfabGreatDoor
set_option linter.unusedVariables false
set_option linter.unusedSimpArgs false
open Go.RowKit
/-- The pieces from the last to the first, with a byte between. -/
def turnB (h : ByteArray) (c d : UInt8) : ByteArray := joinS d (splS c h).reverse
theorem sumS_app (a b : List ByteArray) : sumS (a ++ b) = sumS a + sumS b := by
  unfold sumS; rw [List.map_append, List.sum_append]
theorem sumS_rev (l : List ByteArray) : sumS l.reverse = sumS l := by
  unfold sumS; rw [List.map_reverse, List.sum_reverse]
theorem turnB_size (h : ByteArray) (c d : UInt8) : (turnB h c d).size ≤ 2 * h.size + 1 := by
  have h1 := joinS_size d (splS c h).reverse
  have h2 := splS_le c h
  rw [List.length_reverse, sumS_rev] at h1
  unfold turnB
  omega
theorem setCells_row (g : Nat) (t : TypeId) : ∀ (vs : List Value) (o : Nat) (w : World) (cur : Array Value), w.heap[g]? = some (.cells cur t (0, 0)) → o + vs.length ≤ cur.size → (w.setCells g o vs).heap[g]? = some (.cells (cur.toList.take o ++ vs ++ cur.toList.drop (o + vs.length)).toArray t (0, 0))
  | [], o, w, cur, h, hl => by
    show w.heap[g]? = _
    rw [h]
    simp
  | v :: r, o, w, cur, h, hl => by
    have hb : Blk w g cur t := h
    have h1 : (w.setCell ⟨g, o, none⟩ v).heap[g]? = some (.cells (cur.setIfInBounds o v) t (0, 0)) := hb.set o v
    have hlen : o < cur.toList.length := by simp at hl ⊢; omega
    have ih := setCells_row g t r (o + 1) (w.setCell ⟨g, o, none⟩ v) _ h1 (by simp at hl ⊢; omega)
    show ((w.setCell ⟨g, o, none⟩ v).setCells g (o + 1) r).heap[g]? = _
    rw [ih]
    congr 3
    rw [Array.toList_setIfInBounds]
    rw [List.take_succ_eq_append_getElem (by rw [List.length_set]; exact hlen), List.getElem_set_self, List.take_set_of_le (Nat.le_refl _), List.drop_set_of_lt (by omega)]
    simp [Nat.add_assoc, Nat.add_comm 1]
theorem below_setCells {B g : Nat} {w0 : World} : ∀ {w : World}, Below B w0 w → B ≤ g → ∀ (vs : List Value) (o : Nat), Below B w0 (w.setCells g o vs)
  | _, h, _, [], _ => h
  | _, h, hg, v :: r, o => below_setCells (h.setCell (p := ⟨g, o, none⟩) hg v) hg r (o + 1)
theorem Reverse_any (w0 w : World) (v : Value) (l : List ByteArray) (hb : BufS w0 w v l) (hl : l.length ≤ 1048577) (hne : l ≠ []) :
    Calls Tryz.prog 25 #[v] w fun e w' => e = .returned (.tuple #[]) ∧ BufS w0 w' v l.reverse := by
  obtain ⟨g, cap, rfl, hg, hlt, hc⟩ := hb.cells (List.length_pos_iff.2 hne)
  rcases hb.own.2 with ⟨h1, _⟩ | ⟨g', cap', cur, h1, _, hh, hcap, hmx, hcs, ht⟩
  · cases h1
  · injection h1 with e1 e2 e3
    injection e1 with e1
    injection e1 with e1
    subst e1 e3
    have hf : ∀ j, j < l.length → w.frozen? ⟨g, 0 + j, none⟩ = false := fun j hj => (show Blk w g cur 9 from hh).free _
    have h := Any.slices_Reverse_string_cells Tryz.laysRev g 0 l.length cap (fun i => l.getD i ⟨#[]⟩) w (by omega) (fun i hi => by rw [Nat.zero_add]; exact hc i hi) hf
    refine h.mono ?_
    rintro e w' ⟨rfl, q, rfl⟩
    refine ⟨rfl, ?_⟩
    have hst : (Lib.strsOf (fun i => l.getD i ⟨#[]⟩) l.length).reverse.map encStr = l.reverse.map Value.string := by
      have e : Lib.strsOf (fun i => l.getD i ⟨#[]⟩) l.length = l.map (·.data.toList) := by
        apply List.ext_getElem
        · rw [Lib.strsOf_length, List.length_map]
        · intro i h1 h2
          rw [List.length_map] at h2
          unfold Lib.strsOf
          simp [List.getElem?_eq_getElem h2]
      rw [e, ← List.map_reverse, List.map_map]
      apply List.map_congr_left
      intro x _
      rfl
    rw [hst]
    have hlr : (l.reverse.map Value.string).length = l.length := by simp
    have hrow := setCells_row g 9 (l.reverse.map Value.string) 0 (w.drewN q) cur hh (by rw [hlr]; omega)
    refine ⟨below_setCells (below_drewN hb.below q) hg _ 0, by simp, .inr ⟨g, cap, _, by rw [List.length_reverse], hg, hrow, by rw [List.length_reverse]; exact hcap, hmx, ?_, ?_⟩⟩
    · simp
      have : cur.size = cap * 1 := hcs
      omega
    · simp
set_option maxHeartbeats 2000000 in
theorem turnedHost_any (h : ByteArray) (c d : UInt8) (w : World) (hs : h.size ≤ 1048576) :
    Calls Tryz.prog 13 #[.string h, .string ⟨#[c]⟩, .string ⟨#[d]⟩] w fun e w' => e = .returned (.string (turnB h c d)) ∧ Below w.heap.size w w' := by
  have HSP := hideB2 (fun W => SplitS_any h c W hs)
  have hls := (splS_le c h)
  have hne := splS_ne c h
  have hz := turnB_size h c d
  unfold turnB at hz ⊢
  generalize splS c h = L at *
  have HRV := hideB2 (fun w0 w1 v (hb : BufS w0 w1 v L) => Reverse_any w0 w1 v L hb (by omega) hne)
  have HJ := hideB2 (fun w0 w1 v (hb : BufS w0 w1 v L.reverse) => JoinS_any w0 w1 v d _ hb (by rw [List.length_reverse]; omega) (by omega))
  clear hls hne hz
  generalize L.reverse = LR at *
  generalize joinS d LR = R at *
  go_enter Tryz.func13, Tryz.ntmps13
  go_wp2_with (first | (go_at_call 24; refine (HSP.out _).mono ?_; rintro e w5 ⟨v5, rfl, hb5⟩) | (go_at_call 25; refine (HRV.out _ _ _ hb5).mono ?_; rintro e w6 ⟨rfl, hb6⟩) | (go_at_call 26; refine (HJ.out _ _ _ hb6).mono ?_; rintro e w7 ⟨rfl, hb7⟩))
  go_ret
  exact ⟨rfl, below_then hb6.below hb7⟩
/-- The same, as the specification puts it together: no byte ahead while there is nothing. -/
def trnS (d : UInt8) (s x : ByteArray) : ByteArray := (if s.size = 0 then s else s ++ (⟨#[d]⟩ : ByteArray)) ++ x
def trnF (d : UInt8) (l : List ByteArray) : ByteArray := l.foldl (trnS d) ⟨#[]⟩
theorem trnF_snoc (d : UInt8) (l : List ByteArray) (x : ByteArray) : trnF d (l ++ [x]) = trnS d (trnF d l) x := by simp [trnF]
theorem trnF_from (d : UInt8) : ∀ (l : List ByteArray) (s : ByteArray), s.size ≠ 0 → l.foldl (trnS d) s = s ++ (⟨(tailS d l).toArray⟩ : ByteArray)
  | [], s, _ => by rw [List.foldl_nil]; exact (bytes_nil_right s).symm
  | x :: r, s, h => by
    rw [List.foldl_cons]
    have e : trnS d s x = (s ++ (⟨#[d]⟩ : ByteArray)) ++ x := by unfold trnS; rw [if_neg h]
    rw [e, trnF_from d r _ (by rw [ByteArray.size_append, ByteArray.size_append]; omega)]
    apply bytes_ext
    rw [Go.Joins.data_append, Go.Joins.data_append, Go.Joins.data_append, Go.Joins.data_append]
    show _ = s.data.toList ++ tailS d (x :: r)
    rw [tailS_cons]
    simp
theorem trnF_join (d : UInt8) (x : ByteArray) (r : List ByteArray) (h : x.size ≠ 0) : trnF d (x :: r) = joinS d (x :: r) := by
  unfold trnF
  rw [List.foldl_cons]
  have e : trnS d ⟨#[]⟩ x = x := by unfold trnS; rw [if_pos (show (⟨#[]⟩ : ByteArray).size = 0 from rfl)]; exact bytes_nil_left x
  rw [e, trnF_from d r x h]
  apply bytes_ext
  have h2 := joinS_tail d x r
  rw [tailS_cons] at h2
  rw [Go.Joins.data_append]
  show x.data.toList ++ tailS d r = _
  injection h2 with _ h2
  exact h2.symm
theorem trnF_size (d : UInt8) (l : List ByteArray) : (trnF d l).size ≤ l.length + sumS l := by
  refine snoc_ind (p := fun l => (trnF d l).size ≤ l.length + sumS l) ?_ ?_ l
  · show (0 : Nat) ≤ _; omega
  · intro q x ih
    rw [trnF_snoc]
    have e : sumS (q ++ [x]) = sumS q + x.size := by simp [sumS]
    rw [List.length_append, List.length_singleton, e]
    unfold trnS
    split
    · rw [ByteArray.size_append]; omega
    · rw [ByteArray.size_append, ByteArray.size_append]
      have e1 : (⟨#[d]⟩ : ByteArray).size = 1 := rfl
      omega
def turnS (h : ByteArray) (c d : UInt8) : ByteArray := trnF d (splS c h).reverse
set_option maxRecDepth 100000 in
set_option maxHeartbeats 4000000 in
theorem l7turned_any (h : ByteArray) (c d : UInt8) (w : World) (hs : h.size ≤ 1048576) :
    Calls Tryz.prog 8 #[.string h, .int .u8 (c.toNat : Int), .string ⟨#[d]⟩] w fun e w' => e = .returned (.string (turnS h c d)) ∧ Below w.heap.size w w' := by
  have HSP := hideB2 (fun W => l7split_any h c W hs)
  have hls := splS_le c h
  have HNX := hideB2 (fun (k : Nat) (hk : k < (splS c h).length) => show trnF d ((splS c h).reverse.take (k + 1)) = trnS d (trnF d ((splS c h).reverse.take k)) ((splS c h).getD ((splS c h).length - 1 - k) ⟨#[]⟩) by
    have h1 : k < (splS c h).reverse.length := by rw [List.length_reverse]; exact hk
    rw [List.take_succ_eq_append_getElem h1, trnF_snoc, List.getElem_reverse, List.getD, List.getElem?_eq_getElem (by omega)]
    rfl)
  have HSZ := hideB2 (fun (k : Nat) => show (trnF d ((splS c h).reverse.take k)).size ≤ 2097153 by
    have h1 := trnF_size d ((splS c h).reverse.take k)
    have h2 : sumS ((splS c h).reverse.take k) ≤ sumS (splS c h) := by
      have := congrArg sumS (List.take_append_drop k (splS c h).reverse)
      rw [sumS_rev] at this
      rw [sumS_app] at this
      omega
    have h3 : ((splS c h).reverse.take k).length ≤ (splS c h).length := by rw [List.length_take, List.length_reverse]; omega
    omega)
  have HXZ := hideB2 (fun j (hj : j < (splS c h).length) => show ((splS c h).getD j ⟨#[]⟩).size ≤ 1048576 by
    rw [List.getD, List.getElem?_eq_getElem hj]
    have := sumS_mem (List.getElem_mem hj)
    simp only [Option.getD_some]
    omega)
  have HEN := hideB2 (show trnF d ((splS c h).reverse.take (splS c h).length) = turnS h c d by unfold turnS; rw [List.take_of_length_le (by rw [List.length_reverse]; exact Nat.le_refl _)])
  have HZ0 := hideB2 (show trnF d ((splS c h).reverse.take 0) = ⟨#[]⟩ from rfl)
  generalize turnS h c d = R at *
  have hd1 : (⟨#[d]⟩ : ByteArray).size = 1 := rfl
  generalize hDD : (⟨#[d]⟩ : ByteArray) = DD at *
  have HDD := hideB2 hDD
  clear hDD
  generalize hF : (fun k => trnF d ((splS c h).reverse.take k)) = F at *
  have HF := hideB2 (fun k => congrFun hF k)
  have HNX2 := hideB2 (fun (k : Nat) (hk : k < (splS c h).length) => show F (k + 1) = (if (F k).size = 0 then F k else F k ++ DD) ++ (splS c h).getD ((splS c h).length - 1 - k) ⟨#[]⟩ by
    rw [← HF.out (k + 1), ← HF.out k, ← HDD.out]; exact HNX.out k hk)
  have HSZ2 := hideB2 (fun k => show (F k).size ≤ 2097153 by rw [← HF.out k]; exact HSZ.out k)
  have HEN2 := hideB2 (show F (splS c h).length = R by rw [← HF.out]; exact HEN.out)
  have HZ2 := hideB2 (show F 0 = ⟨#[]⟩ by rw [← HF.out]; exact HZ0.out)
  clear hF HF HNX HSZ HEN HZ0
  generalize splS c h = L at *
  go_enter Tryz.func8, Tryz.ntmps8
  go_wp2_with fail
  refine (HSP.out _).mono ?_
  rintro e w1 ⟨v1, rfl, hbuf⟩
  have HB := hideB2 hbuf.below
  have hcells := fun (h : 0 < L.length) => hbuf.cells h
  obtain ⟨a, c0, rfl⟩ := hbuf.form
  have HC := hideB2 (show ∀ j, j < L.length → ∃ g, a = some ⟨g, 0, none⟩ ∧ w1.cell? ⟨g, j, none⟩ = some (.string (L.getD j ⟨#[]⟩)) from fun j hj => by
    obtain ⟨g, cap, e, _, hlt, hc⟩ := hcells (by omega)
    injection e with e1
    exact ⟨g, e1, hc j hj⟩)
  clear hcells hbuf HSP
  generalize L.length = n at *
  have e1 : IntKind.i64.wrap ((n : Int) - 1) = (n : Int) - 1 := by rw [IntKind.wrap_i64]; omega
  go_wp2
  go_loop [8, 9] (fun sv iv => ∃ k : Nat, k ≤ n ∧ iv = .int .i64 ((n : Int) - 1 - (k : Int)) ∧ sv = .string (F k)) (fun _ iv => (intOf iv + 1).toNat)
  case atStart => exact ⟨0, Nat.zero_le _, by simp, by rw [HZ2.out]⟩
  case round =>
    obtain ⟨k, hk, rfl, rfl⟩ := hrel
    have hsz := HSZ2.out k
    by_cases hlt : k < n
    · have hnx := HNX2.out k hlt
      obtain ⟨g, rfl, p0⟩ := HC.out (n - 1 - k) (by omega)
      have hxz := HXZ.out (n - 1 - k) (by omega)
      generalize L.getD (n - 1 - k) ⟨#[]⟩ = x at *
      have ei : (n : Int) - 1 - (k : Int) = ((n - 1 - k : Nat) : Int) := by omega
      rw [ei]
      have HEI := hideB2 ei
      have c0 : (0 : Int) ≤ ((n - 1 - k : Nat) : Int) := by omega
      have c1 : ((n - 1 - k : Nat) : Int) < (n : Int) := by omega
      have e2 : IntKind.i64.wrap (((n - 1 - k : Nat) : Int) - 1) = ((n - 1 - k : Nat) : Int) - 1 := by rw [IntKind.wrap_i64]; omega
      clear ei
      by_cases h0 : (F k).size = 0
      · rw [if_pos h0] at hnx
        have HNXX := hideB2 hnx
        have hne := empty_of h0
        clear hnx h0
        generalize F k = y at *
        generalize hm : n - 1 - k = m at *
        have HM := hideB2 hm
        clear hm
        go_wp2
        go_round
        case rel => exact ⟨k + 1, by omega, by have := HM.out; first | (congr 1; omega) | (simp; omega), by rw [HNXX.out]⟩
        case measure => have := HM.out; simp [intOf] <;> omega
      · rw [if_neg h0] at hnx
        have HNXX := hideB2 hnx
        have hne := nonempty_of h0
        clear hnx h0
        have hsz2 : (F k ++ DD).size ≤ 2097154 := by rw [ByteArray.size_append]; omega
        generalize F k = y at *
        generalize hm : n - 1 - k = m at *
        have HM := hideB2 hm
        clear hm
        go_wp2
        go_round
        case rel => exact ⟨k + 1, by omega, by have := HM.out; first | (congr 1; omega) | (simp; omega), by rw [HNXX.out]⟩
        case measure => have := HM.out; simp [intOf] <;> omega
    · obtain rfl : k = n := by omega
      have HE := hideB2 HEN2.out
      have c0 : ¬ ((0 : Int) ≤ (k : Int) - 1 - (k : Int)) := by omega
      go_wp2
      go_ret
      exact ⟨ret_str HE.out.symm, HB.out⟩
end Go.Proofs.YtmhohponikolfabGreatDoor
namespace Go.Proofs.YtmhohponikolfabGreatDoor
set_option linter.unusedVariables false
set_option linter.unusedSimpArgs false
open Go.RowKit
def surtB (ho pa qu : ByteArray) (po : Int) (hq : Bool) : ByteArray := if urlQ ho pa qu po hq = true then ((((turnB ho 46 44 ++ portB po) ++ (⟨#[41]⟩ : ByteArray)) ++ pa) ++ qryB qu hq) else ⟨#[]⟩
theorem size_nil {x : ByteArray} (h : x.size = 0) : x = ⟨#[]⟩ := by
  apply bytes_ext
  exact List.eq_nil_of_length_eq_zero (by rw [len_data]; exact h)
theorem turnS_ok (h : ByteArray) (d : UInt8) (hq : hostQ h = true) : turnS h 46 d = turnB h 46 d := by
  unfold turnS turnB
  have hp : (splS 46 h).any (fun x => eqB x ⟨#[]⟩) = false := by
    unfold hostQ at hq
    rw [Bool.and_eq_true] at hq
    simpa using hq.2
  cases hr : (splS 46 h).reverse with
  | nil => rfl
  | cons x r =>
    refine trnF_join d x r ?_
    intro h0
    rw [List.any_eq_false] at hp
    have hm : x ∈ splS 46 h := by
      have : x ∈ (splS 46 h).reverse := by rw [hr]; exact List.mem_cons_self
      exact List.mem_reverse.1 this
    exact hp x hm (by rw [size_nil h0]; exact eqB_self _)
set_option maxRecDepth 100000 in
set_option maxHeartbeats 4000000 in
theorem Surt_any (ho pa qu : ByteArray) (po : Int) (hq : Bool) (w : World) (htab : Tab10 w) (hho : ho.size ≤ 1048576) (hpa : pa.size ≤ 1048576) (hqu : qu.size ≤ 1048576) :
    Calls Tryz.prog 15 #[.agg #[.string ho, .int .i64 po, .string pa, .string qu, .bool hq]] w fun e w' => e = .returned (.string (surtB ho pa qu po hq)) ∧ Below w.heap.size w w' := by
  have HB := hideB2 (below_a1 w (.cells #[.string ho, .int .i64 po, .string pa, .string qu, .bool hq] 23))
  have A1 := hideB2 (Blk.new w #[.string ho, .int .i64 po, .string pa, .string qu, .bool hq] 23)
  have HT := hideB2 (tab_later htab HB.out)
  have HU := hideB2 (fun W h => UrlOk_any ho pa qu po hq W h hho hpa hqu)
  have HTU := hideB2 (fun W => turnedHost_any ho 46 44 W hho)
  have HP := hideB2 (fun W h => portText_any ho pa qu po hq W h )
  have HQ := hideB2 (fun W => queryText_any ho pa qu po hq W hqu)
  have hz1 := portB_size po
  have hz2 := qryB_size qu hq
  clear htab
  cases hh : urlQ ho pa qu po hq
  · have HE := hideB2 (show surtB ho pa qu po hq = ⟨#[]⟩ by unfold surtB; rw [hh]; rfl)
    rw [hh] at HU
    clear hh
    go_enter Tryz.func15, Tryz.ntmps15
    go_wp2_with (go_at_call 14; refine (HU.out _ HT.out).mono ?_; rintro e w1 ⟨rfl, hb1⟩)
    go_ret
    exact ⟨ret_str HE.out, below_then HB.out hb1⟩
  · have HE := hideB2 (show surtB ho pa qu po hq = ((((turnB ho 46 44 ++ portB po) ++ (⟨#[41]⟩ : ByteArray)) ++ pa) ++ qryB qu hq) by unfold surtB; rw [hh]; rfl)
    rw [hh] at HU
    have hz3 := turnB_size ho 46 44
    generalize surtB ho pa qu po hq = R at *
    generalize turnB ho 46 44 = T at *
    generalize portB po = P at *
    generalize qryB qu hq = Q at *
    have hs0 : (⟨#[41]⟩ : ByteArray).size = 1 := rfl
    have hs1 : (T ++ P).size ≤ 2097200 := by rw [ByteArray.size_append]; omega
    have hs2 : ((T ++ P) ++ (⟨#[41]⟩ : ByteArray)).size ≤ 2097201 := by rw [ByteArray.size_append]; omega
    have hs3 : (((T ++ P) ++ (⟨#[41]⟩ : ByteArray)) ++ pa).size ≤ 3145800 := by rw [ByteArray.size_append]; omega
    clear hh
    go_enter Tryz.func15, Tryz.ntmps15
    go_wp2_with fail
    refine (HU.out _ HT.out).mono ?_
    rintro e w1 ⟨rfl, hb1⟩
    have HB1 := hideB2 (below_then HB.out hb1)
    have HT1 := hideB2 (tab_later HT.out hb1)
    obtain ⟨p0, p1, p2, p3, p4⟩ := (A1.out.later hb1).u5
    clear hb1 HB A1
    have z0 := fun V => grw_some p0 V
    have z1 := fun V => grw_some p1 V
    have z2 := fun V => grw_some p2 V
    have z3 := fun V => grw_some p3 V
    have z4 := fun V => grw_some p4 V
    have HTV := hideB2 (fun V : Gr w1 => tab_later HT1.out (grw_below w1 V))
    clear p0 p1 p2 p3 p4
    go_wp2
    refine wp_region_grow ?_ ?_ ?_
    · kernel_rfl
    · kernel_rfl
    · intro hne0
      repeat (go_big_quiet_step ((first | (go_at_call 13; exact grow_call (HTU.out _)) | (go_at_call 33; exact grow_call (HP.out _ (HTV.out _))) | (go_at_call 34; exact grow_call (HQ.out _)))))
      refine wpQuiet_nil ?_
      rintro _ ⟨V, rfl⟩
      have HBV := hideB2 (below_then HB1.out (grw_below w1 V))
      generalize grw w1 V = w3 at *
      go_wp2
      go_ret
      exact ⟨ret_str HE.out, HBV.out⟩
set_option maxRecDepth 100000 in
set_option maxHeartbeats 4000000 in
theorem sSurt_any (ho pa qu : ByteArray) (po : Int) (hq : Bool) (w : World) (hho : ho.size ≤ 1048576) (hpa : pa.size ≤ 1048576) (hqu : qu.size ≤ 1048576) :
    Calls Tryz.prog 10 #[.agg #[.string ho, .int .i64 po, .string pa, .string qu, .bool hq]] w fun e w' => e = .returned (.string (surtB ho pa qu po hq)) ∧ Below w.heap.size w w' := by
  have HB := hideB2 (below_a1 w (.cells #[.string ho, .int .i64 po, .string pa, .string qu, .bool hq] 23))
  have A1 := hideB2 (Blk.new w #[.string ho, .int .i64 po, .string pa, .string qu, .bool hq] 23)
  have HU := hideB2 (fun W => sUrlOk_any ho pa qu po hq W hho hpa hqu)
  have HTU := hideB2 (fun W => l7turned_any ho 46 44 W hho)
  have HP := hideB2 (fun W => l7port_any ho pa qu po hq W )
  have HQ := hideB2 (fun W => l7query_any ho pa qu po hq W hqu)
  have hz1 := portB_size po
  have hz2 := qryB_size qu hq
  cases hh : urlQ ho pa qu po hq
  · have HE := hideB2 (show surtB ho pa qu po hq = ⟨#[]⟩ by unfold surtB; rw [hh]; rfl)
    rw [hh] at HU
    clear hh
    go_enter Tryz.func10, Tryz.ntmps10
    go_wp2_with (go_at_call 19; refine (HU.out _).mono ?_; rintro e w1 ⟨rfl, hb1⟩)
    go_ret
    exact ⟨ret_str HE.out, below_then HB.out hb1⟩
  · have HE := hideB2 (show surtB ho pa qu po hq = ((((turnB ho 46 44 ++ portB po) ++ (⟨#[41]⟩ : ByteArray)) ++ pa) ++ qryB qu hq) by unfold surtB; rw [hh]; rfl)
    have hte := turnS_ok ho 44 (by have := hh; unfold urlQ at this; simp only [Bool.and_eq_true] at this; exact this.1.1.1.1.1)
    rw [hte] at HTU
    clear hte
    rw [hh] at HU
    have hz3 := turnB_size ho 46 44
    generalize surtB ho pa qu po hq = R at *
    generalize turnB ho 46 44 = T at *
    generalize portB po = P at *
    generalize qryB qu hq = Q at *
    have hs0 : (⟨#[41]⟩ : ByteArray).size = 1 := rfl
    have hs1 : (T ++ P).size ≤ 2097200 := by rw [ByteArray.size_append]; omega
    have hs2 : ((T ++ P) ++ (⟨#[41]⟩ : ByteArray)).size ≤ 2097201 := by rw [ByteArray.size_append]; omega
    have hs3 : (((T ++ P) ++ (⟨#[41]⟩ : ByteArray)) ++ pa).size ≤ 3145800 := by rw [ByteArray.size_append]; omega
    clear hh
    go_enter Tryz.func10, Tryz.ntmps10
    go_wp2_with fail
    refine (HU.out _).mono ?_
    rintro e w1 ⟨rfl, hb1⟩
    have HB1 := hideB2 (below_then HB.out hb1)
    obtain ⟨p0, p1, p2, p3, p4⟩ := (A1.out.later hb1).u5
    clear hb1 HB A1
    have z0 := fun V => grw_some p0 V
    have z1 := fun V => grw_some p1 V
    have z2 := fun V => grw_some p2 V
    have z3 := fun V => grw_some p3 V
    have z4 := fun V => grw_some p4 V
    clear p0 p1 p2 p3 p4
    go_wp2
    refine wp_region_grow ?_ ?_ ?_
    · kernel_rfl
    · kernel_rfl
    · intro hne0
      repeat (go_big_quiet_step ((first | (go_at_call 8; exact grow_call (HTU.out _)) | (go_at_call 20; exact grow_call (HP.out _)) | (go_at_call 21; exact grow_call (HQ.out _)))))
      refine wpQuiet_nil ?_
      rintro _ ⟨V, rfl⟩
      have HBV := hideB2 (below_then HB1.out (grw_below w1 V))
      generalize grw w1 V = w3 at *
      go_wp2
      go_ret
      exact ⟨ret_str HE.out, HBV.out⟩
end Go.Proofs.YtmhohponikolfabGreatDoor
namespace Go.Proofs.YtmhohponikolfabGreatDoor
set_option linter.unusedVariables false
set_option linter.unusedSimpArgs false
open Go.RowKit

def rdecN (s : ByteArray) : Int := ((rdec s).getD 0 : Nat)
def rdecOk (s : ByteArray) : Bool := (rdec s).isSome
theorem rdec_none {s : ByteArray} (h : rdec s = none) : rdecN s = 0 ∧ rdecOk s = false := by simp [rdecN, rdecOk, h]
theorem rdec_some {s : ByteArray} {u : Nat} (h : rdec s = some u) : rdecN s = (u : Int) ∧ rdecOk s = true := by simp [rdecN, rdecOk, h]
theorem ret_ib {k : IntKind} {n m : Int} {a b : Bool} (h : m = n) (h' : b = a) : Ending.returned (.tuple #[.int k n, .bool a]) = .returned (.tuple #[.int k m, .bool b]) := by rw [h, h']

set_option maxHeartbeats 1000000 in
theorem sReadDec_any (s : ByteArray) (w : World) (hs : s.size ≤ maxLen) :
    Calls Tryz.prog 9 #[.string s] w fun e w' => e = .returned (.tuple #[.int .i64 (rdecN s), .bool (rdecOk s)]) ∧ Below w.heap.size w w' := by
  unfold maxLen at hs
  by_cases h0 : s.size = 0
  · have hr := rdec_none (rdec_size s (Or.inl h0))
    have hne : ((s.size : Int) == 0) = true := by rw [beq_iff_eq]; omega
    rw [hr.1, hr.2]
    clear hr
    go_enter Tryz.func9, Tryz.ntmps9
    go_wp2
    go_ret2
    exact ⟨rfl, Below.refl _ _⟩
  · have hne2 : ((s.size : Int) == 0) = false := by rw [Bool.eq_false_iff, ne_eq, beq_iff_eq]; omega
    by_cases hbig : (15 : Int) < (s.size : Int)
    · have hr := rdec_none (rdec_size s (Or.inr (by omega)))
      rw [hr.1, hr.2]
      clear hr
      go_enter Tryz.func9, Tryz.ntmps9
      go_wp2
      go_ret2
      exact ⟨rfl, Below.refl _ _⟩
    · go_enter Tryz.func9, Tryz.ntmps9
      go_wp2
      clear hne2
      go_loop [4, 5] (fun n i => ∃ k : Nat, k ≤ s.size ∧ i = .int .i64 k ∧ n = .int .i64 (valL (s.data.toList.take k) : Nat) ∧ allDig (s.data.toList.take k) = true) (fun _ i => s.size - (intOf i).toNat)
      case atStart => exact ⟨0, Nat.zero_le _, rfl, rfl, rfl⟩
      case round =>
        obtain ⟨k, hk, rfl, rfl, hall⟩ := hrel
        have Hall : Hid (allDig (s.data.toList.take k) = true) := hall
        have hvl : valL (s.data.toList.take k) < 1000000000000000 := by
          have h1 := valL_lt _ hall
          have h3 : 10 ^ (s.data.toList.take k).length ≤ 10 ^ 15 := Nat.pow_le_pow_right (by decide) (by simp; omega)
          have h4 : (10 : Nat) ^ 15 = 1000000000000000 := by decide
          omega
        clear hall
        by_cases hlt : k < s.size
        · cases hg0 : dig8 (at8 s k)
          · have hg : digP (s[k].toNat : Int) = false := by rw [at8_eq s k hlt]; exact hg0
            have hfin : Hid (rdecN s = 0 ∧ rdecOk s = false) := rdec_none (rdec_nodig s k hlt hg0)
            clear hg0
            go_wp2_with (go_at_call 17; refine (l1digit_any _ _).mono ?_; rintro e w' ⟨rfl, rfl⟩)
            go_ret2
            exact ⟨ret_ib hfin.out.1 hfin.out.2, Below.refl _ _⟩
          · have hg : digP (s[k].toNat : Int) = true := by rw [at8_eq s k hlt]; exact hg0
            have hb := (dig8_iff _).1 hg0
            have hval : Hid (valL (s.data.toList.take (k + 1)) = valL (s.data.toList.take k) * 10 + (s[k].toNat - 48)) := by
              show _ = _
              rw [allDig_take_succ s k hlt, valL_snoc, at8_eq s k hlt]
            have Hall2 : Hid (allDig (s.data.toList.take (k + 1)) = true) := by
              show _ = _
              rw [allDig_take_succ s k hlt]; exact allDig_snoc _ _ Hall.out hg0
            have hb1 : 48 ≤ s[k].toNat := by rw [at8_eq s k hlt]; exact hb.1
            have hb2 : s[k].toNat ≤ 57 := by rw [at8_eq s k hlt]; exact hb.2
            clear hg0 hb
            generalize valL (s.data.toList.take k) = v at *
            go_wp2_with (go_at_call 17; refine (l1digit_any _ _).mono ?_; rintro e w' ⟨rfl, rfl⟩)
            go_round
            case rel => exact ⟨k + 1, by omega, by go_num, congrArg (Value.int .i64) (by rw [hval.out]; omega), Hall2.out⟩
            case measure => simp [intOf]; omega
        · obtain rfl : k = s.size := by omega
          have ht : s.data.toList.take s.size = s.data.toList := List.take_of_length_le (by rw [len_data]; exact Nat.le_refl _)
          rw [ht] at Hall hvl ⊢
          have hd := decDigits_len (valL s.data.toList) (by omega)
          have hfin : Hid ((eqB (decB (valL s.data.toList)) s = true ∧ rdecN s = (valL s.data.toList : Nat) ∧ rdecOk s = true) ∨ (eqB (decB (valL s.data.toList)) s = false ∧ rdecN s = 0 ∧ rdecOk s = false)) := by
            show _ ∨ _
            by_cases he : Lib.decDigits (valL s.data.toList) = s.data.toList
            · left
              exact ⟨eqB_iff.2 (bytes_ext he), rdec_some (rdec_yes s (by omega) (by omega) Hall.out he)⟩
            · right
              refine ⟨Bool.eq_false_iff.2 (fun hh => he ?_), rdec_none (rdec_ne s he)⟩
              exact (decB_list _).symm.trans (congrArg (fun x : ByteArray => x.data.toList) (eqB_iff.1 hh))
          clear Hall ht hd
          generalize valL s.data.toList = v at *
          rcases hfin.out with ⟨he, hn, ho⟩ | ⟨he, hn, ho⟩
          all_goals
            have HF : Hid (rdecN s = _ ∧ rdecOk s = _) := ⟨hn, ho⟩
            clear hn ho hfin
            unfold eqB at he
            go_wp2_with (go_at_call 18; refine (sDecText_nat _ _ (by omega)).mono ?_; rintro e w1 ⟨rfl, hb⟩)
            go_ret2
            exact ⟨ret_ib HF.out.1 HF.out.2, hb⟩
set_option maxHeartbeats 1000000 in
theorem ReadDec_any (s : ByteArray) (w : World) (hs : s.size ≤ maxLen) :
    Calls Tryz.prog 23 #[.string s] w fun e w' => e = .returned (.tuple #[.int .i64 (rdecN s), .bool (rdecOk s)]) ∧ w' = w := by
  unfold maxLen at hs
  by_cases h0 : s.size = 0
  · have hr := rdec_none (rdec_size s (Or.inl h0))
    have hne : s.toList.isEmpty = true := by rw [ByteArray.toList_eq, List.isEmpty_iff, ← List.length_eq_zero_iff, Array.length_toList]; exact h0
    rw [hr.1, hr.2]
    clear hr
    go_enter Tryz.func23, Tryz.ntmps23
    go_wp2
    go_ret2
    exact ⟨rfl, rfl⟩
  · have hne : s.toList.isEmpty = false := by
      rw [ByteArray.toList_eq, List.isEmpty_eq_false_iff]
      intro hh
      apply h0
      rw [← len_data, hh]; rfl
    have hpos : 0 < s.size := by omega
    by_cases hz : (at8 s 0).toNat = 48 ∧ s.data.toList ≠ [48]
    · have hr := rdec_none (rdec_zero s hpos hz.1 hz.2)
      have hq1 : ((s[0].toNat : Int) == 48) = true := by rw [beq_iff_eq, at8_eq s 0 hpos]; omega
      have hq2 : (s.toList == [48]) = false := by rw [ByteArray.toList_eq, beq_eq_false_iff_ne]; exact hz.2
      rw [hr.1, hr.2]
      clear hr hz
      go_enter Tryz.func23, Tryz.ntmps23
      go_wp2
      go_ret2
      exact ⟨rfl, rfl⟩
    · have hz' : Hid ((at8 s 0).toNat ≠ 48 ∨ s.data.toList = [48]) := by
        show _ ∨ _
        by_cases h1 : (at8 s 0).toNat = 48
        · right; exact Classical.byContradiction fun h2 => hz ⟨h1, h2⟩
        · left; exact h1
      have hway : (((s[0].toNat : Int) == 48) = false) ∨ (((s[0].toNat : Int) == 48) = true ∧ (s.toList == [48]) = true) := by
        rcases hz'.out with h | h
        · left; rw [beq_eq_false_iff_ne, at8_eq s 0 hpos]; omega
        · by_cases h1 : ((s[0].toNat : Int) == 48) = true
          · right; exact ⟨h1, by rw [ByteArray.toList_eq, h]; rfl⟩
          · left; simpa using h1
      clear hz
      rcases hway with hq1 | ⟨hq1, hq2⟩
      all_goals
        go_enter Tryz.func23, Tryz.ntmps23
        go_wp2
        clear hne
        go_loop [4, 19] (fun n i => ∃ k : Nat, k ≤ s.size ∧ i = .int .i64 k ∧ n = .int .i64 (valL (s.data.toList.take k) : Nat) ∧ allDig (s.data.toList.take k) = true ∧ valL (s.data.toList.take k) ≤ 999999999999999) (fun _ i => s.size - (intOf i).toNat)
        case atStart => exact ⟨0, Nat.zero_le _, rfl, rfl, rfl, by simp [valL]⟩
        case round =>
          obtain ⟨k, hk, rfl, rfl, hall, hvl⟩ := hrel
          have Hall : Hid (allDig (s.data.toList.take k) = true) := hall
          clear hall
          by_cases hlt : k < s.size
          · cases hg0 : dig8 (at8 s k)
            · have hg : digP (s[k].toNat : Int) = false := by rw [at8_eq s k hlt]; exact hg0
              have hfin : Hid (rdecN s = 0 ∧ rdecOk s = false) := rdec_none (rdec_nodig s k hlt hg0)
              clear hg0
              go_wp2_with (go_at_call 40; refine (digitByte_any _ _).mono ?_; rintro e w' ⟨rfl, rfl⟩)
              go_ret2
              exact ⟨ret_ib hfin.out.1 hfin.out.2, rfl⟩
            · have hg : digP (s[k].toNat : Int) = true := by rw [at8_eq s k hlt]; exact hg0
              have hb := (dig8_iff _).1 hg0
              have hval0 : valL (s.data.toList.take (k + 1)) = valL (s.data.toList.take k) * 10 + (s[k].toNat - 48) := by
                rw [allDig_take_succ s k hlt, valL_snoc, at8_eq s k hlt]
              have Hall2 : Hid (allDig (s.data.toList.take (k + 1)) = true) := by
                show _ = _
                rw [allDig_take_succ s k hlt]; exact allDig_snoc _ _ Hall.out hg0
              have hb1 : 48 ≤ s[k].toNat := by rw [at8_eq s k hlt]; exact hb.1
              have hb2 : s[k].toNat ≤ 57 := by rw [at8_eq s k hlt]; exact hb.2
              have hbig : Hid (999999999999999 < valL (s.data.toList.take (k + 1)) → rdecN s = 0 ∧ rdecOk s = false) := fun h => rdec_none (rdec_big s (k + 1) hlt Hall2.out h)
              have hval : Hid (valL (s.data.toList.take (k + 1)) = valL (s.data.toList.take k) * 10 + (s[k].toNat - 48)) := hval0
              clear hg0 hb hval0
              generalize valL (s.data.toList.take k) = v at *
              by_cases hover : (999999999999999 : Int) < (v : Int) * 10 + ((s[k].toNat : Int) - 48)
              · go_wp2_with (go_at_call 40; refine (digitByte_any _ _).mono ?_; rintro e w' ⟨rfl, rfl⟩)
                go_ret2
                have hh := hbig.out (by rw [hval.out]; omega)
                exact ⟨ret_ib hh.1 hh.2, rfl⟩
              · go_wp2_with (go_at_call 40; refine (digitByte_any _ _).mono ?_; rintro e w' ⟨rfl, rfl⟩)
                go_round
                case rel => exact ⟨k + 1, by omega, by go_num, congrArg (Value.int .i64) (by rw [hval.out]; omega), Hall2.out, by rw [hval.out]; omega⟩
                case measure => simp [intOf]; omega
          · obtain rfl : k = s.size := by omega
            have ht : s.data.toList.take s.size = s.data.toList := List.take_of_length_le (by rw [len_data]; exact Nat.le_refl _)
            rw [ht] at Hall hvl ⊢
            have hfin : Hid (rdecN s = (valL s.data.toList : Nat) ∧ rdecOk s = true) := rdec_some (rdec_end s hpos Hall.out hz'.out hvl)
            clear ht
            generalize valL s.data.toList = v at *
            go_wp2
            go_ret2
            exact ⟨ret_ib hfin.out.1 hfin.out.2, rfl⟩
end Go.Proofs.YtmhohponikolfabGreatDoor
namespace Go.Proofs.YtmhohponikolfabGreatDoor
set_option linter.unusedVariables false
set_option linter.unusedSimpArgs false
open Go.RowKit

theorem fold_round {s : ByteArray} {k : Nat} {w wr : World} (hlt : k < s.size) (hrow : Hid (Row8 wr w.heap.size (foldTo s k))) (hbel : Hid (Below w.heap.size w wr)) :
    Row8 (wr.setCell ⟨w.heap.size, k, none⟩ (.int .u8 (lowI ((nums s).getD k 0)))) w.heap.size (foldTo s (k + 1)) ∧ Below w.heap.size w (wr.setCell ⟨w.heap.size, k, none⟩ (.int .u8 (lowI ((nums s).getD k 0)))) := by
  refine ⟨?_, hbel.out.setCell (by simp) _⟩
  rw [foldTo_succ s k hlt]
  exact hrow.out.set k _ (by rw [foldTo_length]; exact hlt)

end Go.Proofs.YtmhohponikolfabGreatDoor
namespace Go.Proofs.YtmhohponikolfabGreatDoor
set_option linter.unusedVariables false
set_option linter.unusedSimpArgs false
open Go.RowKit
theorem results_cellS {fn : Func} {p : Tmp} {ty : TypeId} (h : fn.results = #[.cell p ty]) (tmps : Array Value) (P : Program) (w : World) {b : Nat} {c : Array Value} {t : TypeId} {fs : Array Field} (hp : tmps.getD p undef = .pointer (some ⟨b, 0, none⟩)) (hB : Blk w b c t)
    (hu : P.underlying ty = some (.struct fs)) (hi : (P.info? ty).map (·.size) = some c.size) : (results fn tmps).run P w = .ok (.agg c) w := by
  have hrun := run_loadVar_row (P := P) w b t ty c (0, 0) _ hB hu rfl hi
  have ha : (asAddr (tmps.getD p undef)).run P w = .ok ⟨b, 0, none⟩ w := by rw [hp]; rfl
  have he : (results fn tmps).run P w = ((asAddr (tmps.getD p undef)).run P w).andThen fun a w₁ => (loadVar ty a).run P w₁ := by
    simp only [results, h]
    simp [Sem.run_bind, Result.andThen]
  rw [he, ha]
  exact hrun
theorem results_cellT {fn : Func} {p u : Tmp} {ty : TypeId} (h : fn.results = #[.cell p ty, .tmp u]) (tmps : Array Value) (P : Program) (w : World) {b : Nat} {c : Array Value} {t : TypeId} {fs : Array Field} (hp : tmps.getD p undef = .pointer (some ⟨b, 0, none⟩)) (hB : Blk w b c t)
    (hu : P.underlying ty = some (.struct fs)) (hi : (P.info? ty).map (·.size) = some c.size) : (results fn tmps).run P w = .ok (.tuple #[.agg c, tmps.getD u undef]) w := by
  have hrun := run_loadVar_row (P := P) w b t ty c (0, 0) _ hB hu rfl hi
  have ha : (asAddr (tmps.getD p undef)).run P w = .ok ⟨b, 0, none⟩ w := by rw [hp]; rfl
  rw [results_cell_tmp h, ha]
  show ((loadVar ty ⟨b, 0, none⟩).run P w).andThen _ = _
  rw [hrun]
  rfl
theorem Blk.c2 {w : World} {g : Nat} {x y : Value} {t : TypeId} (h : Blk w g #[x, y] t) : w.cell? ⟨g, 0, none⟩ = some x ∧ w.cell? ⟨g, 1, none⟩ = some y := ⟨h.cell 0, h.cell 1⟩
theorem Blk.set2 {w : World} {g : Nat} {a b : Value} {t : TypeId} (h : Blk w g #[a, b] t) (x y : Value) : Blk ((w.setCell ⟨g, 0, none⟩ x).setCell ⟨g, 1, none⟩ y) g #[x, y] t := (h.set 0 x).set 1 y
theorem Blk.oth2 {w : World} {b g : Nat} {c : Array Value} {t : TypeId} (h : Blk w b c t) (hne : g ≠ b) (x y : Value) : Blk ((w.setCell ⟨g, 0, none⟩ x).setCell ⟨g, 1, none⟩ y) b c t := (h.other hne 0 x).other hne 1 y
theorem below_set2 {B g : Nat} {w0 w : World} (h : Below B w0 w) (hg : B ≤ g) (x y : Value) : Below B w0 ((w.setCell ⟨g, 0, none⟩ x).setCell ⟨g, 1, none⟩ y) :=
  (h.setCell (p := ⟨g, 0, none⟩) hg x).setCell (p := ⟨g, 1, none⟩) hg y
theorem blk_a (w : World) (c : Array Value) (t : TypeId) (o o' : Obj) : Blk (((w.alloc (.cells c t)).alloc o).alloc o') w.heap.size c t := ((Blk.new w c t).alloc o).alloc o'
theorem blk_b (w : World) (c : Array Value) (t : TypeId) (o o' : Obj) : Blk (((w.alloc o).alloc (.cells c t)).alloc o') (w.heap.size + 1) c t := by
  have := (Blk.new (w.alloc o) c t).alloc o'
  simpa using this
theorem blk_c (w : World) (c : Array Value) (t : TypeId) (o o' : Obj) : Blk (((w.alloc o).alloc o').alloc (.cells c t)) (w.heap.size + 1 + 1) c t := by
  have := Blk.new ((w.alloc o).alloc o') c t
  simpa using this
theorem below_drewN' (w : World) (n : Nat) : Below w.heap.size w (w.drewN n) := ⟨rfl, rfl, rfl, Nat.le_refl _, fun _ _ => rfl⟩
theorem made2 (x y : Value) (n j : Nat) (h : j < n) : (madeCells #[x, y] (n * 2)).toList[j * 2]? = some x ∧ (madeCells #[x, y] (n * 2)).toList[j * 2 + 1]? = some y := by
  have h1 : j * 2 < n * 2 := by omega
  have h2 : j * 2 + 1 < n * 2 := by omega
  have e1 : j * 2 % 2 = 0 := by omega
  have e2 : (j * 2 + 1) % 2 = 1 := by omega
  constructor
  · simp [madeCells, h1, e1]
  · simp [madeCells, h2, e2]
end Go.Proofs.YtmhohponikolfabGreatDoor
namespace Go.Proofs.YtmhohponikolfabGreatDoor
set_option linter.unusedVariables false
set_option linter.unusedSimpArgs false
open Go.RowKit
/-- An address. -/
structure Ur where
  ho : ByteArray
  pa : ByteArray
  qu : ByteArray
  po : Int
  hq : Bool
def ur0 : Ur := ⟨⟨#[]⟩, ⟨#[]⟩, ⟨#[]⟩, 0, false⟩
def valU (u : Ur) : Value := .agg #[.string u.ho, .int .i64 u.po, .string u.pa, .string u.qu, .bool u.hq]
def urQ (u : Ur) : Bool := urlQ u.ho u.pa u.qu u.po u.hq
/-- The authority: up to the first / or ?. -/
def auU (r : ByteArray) : ByteArray := uptS 47 (uptS 63 r)
theorem ext_all (s : ByteArray) : s.extract 0 s.size = s := by
  apply bytes_ext
  rw [Lib.extract_data, List.drop_zero]
  exact List.take_of_length_le (by rw [len_data]; omega)
theorem auU_size (r : ByteArray) : (auU r).size ≤ r.size := Nat.le_trans (uptS_size _ _) (uptS_size _ _)
theorem auU_at {r : ByteArray} {i : Nat} (hi : i < r.size) (h0 : ∀ j, j < i → at8 r j ≠ 47 ∧ at8 r j ≠ 63) (h : at8 r i = 47 ∨ at8 r i = 63) : auU r = r.extract 0 i := by
  have pre : ∀ k, i ≤ k → k ≤ r.size → ∀ j, j < i → at8 (r.extract 0 k) j = at8 r j := fun k hk hk2 j hj => by
    rw [at8_extS hk2 (by omega), Nat.zero_add]
  unfold auU
  rcases h with h | h
  · rcases idxS_cases 63 r with h1 | ⟨k, h1, hk⟩
    · rw [uptS_none h1]
      exact uptS_some (idxS_of hi h (fun j hj => (h0 j hj).1))
    · obtain ⟨g1, g2, g3⟩ := idxS_some h1
      have hik : i < k := by
        rcases Nat.lt_trichotomy k i with h2 | h2 | h2
        · exact absurd g2 (h0 k h2).2
        · subst h2; rw [h] at g2; cases g2
        · exact h2
      rw [uptS_some h1]
      have e1 : idxS 47 (r.extract 0 k) = (i : Int) := by
        refine idxS_of (by rw [ByteArray.size_extract]; omega) ?_ ?_
        · rw [at8_extS (by omega) (by omega), Nat.zero_add]; exact h
        · intro j hj; rw [pre k (by omega) (by omega) j hj]; exact (h0 j hj).1
      rw [uptS_some e1, ByteArray.extract_extract]
      congr 1; omega
  · rw [uptS_some (idxS_of hi h (fun j hj => (h0 j hj).2))]
    refine (uptS_none (idxS_miss ?_))
    intro j hj
    have hj2 : j < i := by rw [ByteArray.size_extract] at hj; omega
    rw [pre i (Nat.le_refl _) (by omega) j hj2]
    exact (h0 j hj2).1
theorem auU_none {r : ByteArray} (h0 : ∀ j, j < r.size → at8 r j ≠ 47 ∧ at8 r j ≠ 63) : auU r = r := by
  unfold auU
  rw [uptS_none (idxS_miss (fun j hj => (h0 j hj).2))]
  exact uptS_none (idxS_miss (fun j hj => (h0 j hj).1))
theorem auU_no (r : ByteArray) : idxS 47 (auU r) = -1 ∧ idxS 63 (auU r) = -1 := by
  have key : ∀ (c : UInt8) (s : ByteArray), idxS c (uptS c s) = -1 := by
    intro c s
    rcases idxS_cases c s with h | ⟨i, h, hi⟩
    · rw [uptS_none h]; exact h
    · obtain ⟨g1, g2, g3⟩ := idxS_some h
      rw [uptS_some h]
      refine idxS_miss (fun j hj => ?_)
      have : j < i := by rw [ByteArray.size_extract] at hj; omega
      rw [at8_extS (by omega) (by omega), Nat.zero_add]
      exact g3 j this
  refine ⟨key 47 _, ?_⟩
  unfold auU
  have h63 := key 63 r
  generalize uptS 63 r = f at *
  rcases idxS_cases 47 f with h | ⟨i, h, hi⟩
  · rw [uptS_none h]; exact h63
  · rw [uptS_some h]
    refine idxS_miss (fun j hj => ?_)
    have h2 : j < i := by rw [ByteArray.size_extract] at hj; omega
    rw [at8_extS (by omega) (by omega), Nat.zero_add]
    exact idxS_none h63 j (by omega)
/-- The rest, and how it is cut at its ?. -/
def reU (r : ByteArray) : ByteArray := r.extract (auU r).size r.size
theorem idx_shift {c : UInt8} {r : ByteArray} {n : Nat} (hn : n ≤ r.size) (h0 : ∀ j, j < n → at8 r j ≠ c) : (idxS c (r.extract n r.size) = -1 ∧ idxS c r = -1) ∨ ∃ i : Nat, idxS c (r.extract n r.size) = (i : Int) ∧ idxS c r = ((n + i : Nat) : Int) ∧ n + i < r.size := by
  have hz : (r.extract n r.size).size = r.size - n := by rw [ByteArray.size_extract]; omega
  rcases idxS_cases c (r.extract n r.size) with h | ⟨i, h, hi⟩
  · left
    refine ⟨h, idxS_miss (fun j hj => ?_)⟩
    rcases Nat.lt_or_ge j n with h1 | h1
    · exact h0 j h1
    · have := idxS_none h (j - n) (by omega)
      rwa [at8_extS (Nat.le_refl _) (by omega), show n + (j - n) = j by omega] at this
  · right
    obtain ⟨g1, g2, g3⟩ := idxS_some h
    refine ⟨i, h, idxS_of (by omega) ?_ ?_, by omega⟩
    · rwa [at8_extS (Nat.le_refl _) (by omega)] at g2
    · intro j hj
      rcases Nat.lt_or_ge j n with h1 | h1
      · exact h0 j h1
      · have := g3 (j - n) (by omega)
        rwa [at8_extS (Nat.le_refl _) (by omega), show n + (j - n) = j by omega] at this
theorem ext_congr {s : ByteArray} {a b a' b' : Nat} (h1 : a = a') (h2 : b = b') : s.extract a b = s.extract a' b' := by rw [h1, h2]
theorem auU_pre (r : ByteArray) : auU r = r.extract 0 (auU r).size := by
  unfold auU
  rcases idxS_cases 63 r with h | ⟨i, h, hi⟩
  · rw [uptS_none h]
    rcases idxS_cases 47 r with g | ⟨k, g, hk⟩
    · rw [uptS_none g]; exact (ext_all r).symm
    · rw [uptS_some g, ByteArray.size_extract]; congr 1; omega
  · rw [uptS_some h]
    rcases idxS_cases 47 (r.extract 0 i) with g | ⟨k, g, hk⟩
    · rw [uptS_none g, ByteArray.size_extract]; congr 1; omega
    · have hz : (r.extract 0 i).size = i := by rw [ByteArray.size_extract]; omega
      rw [uptS_some g, ByteArray.extract_extract, ByteArray.size_extract]
      congr 1 <;> omega
theorem auU_head (r : ByteArray) : ∀ j, j < (auU r).size → at8 r j ≠ 63 := by
  intro j hj
  have h := idxS_none (auU_no r).2 j hj
  have hs := auU_size r
  have e : at8 (auU r) j = at8 r j := by
    have h1 := at8_extS (s := r) (a := 0) (b := (auU r).size) (j := j) hs (by omega)
    rw [← auU_pre r, Nat.zero_add] at h1
    exact h1
  rwa [e] at h
/-- Cut at ? the rest gives the path and the query as the whole does. -/
theorem reU_cut (r : ByteArray) : uptS 63 (reU r) = (uptS 63 r).extract (auU r).size (uptS 63 r).size ∧ bhS 63 (reU r) = bhS 63 r ∧ hasS 63 (reU r) = hasS 63 r ∧ (auU r).size ≤ (uptS 63 r).size := by
  have hs := auU_size r
  have hsu : (auU r).size ≤ (uptS 63 r).size := uptS_size _ _
  rcases idx_shift (c := 63) hs (auU_head r) with ⟨h1, h2⟩ | ⟨i, h1, h2, h3⟩
  · obtain ⟨a1, a2, a3⟩ := cut_none h1
    obtain ⟨b1, b2, b3⟩ := cut_none h2
    unfold reU
    rw [a1, a2, a3, b1, b2, b3]
    rw [b1] at hsu
    exact ⟨rfl, rfl, rfl, hsu⟩
  · obtain ⟨a1, a2, a3⟩ := cut_some h1
    obtain ⟨b1, b2, b3⟩ := cut_some h2
    have hz : (r.extract (auU r).size r.size).size = r.size - (auU r).size := by rw [ByteArray.size_extract]; omega
    unfold reU
    rw [a1, a2, a3, b1, b2, b3]
    rw [b1] at hsu
    refine ⟨?_, ?_, rfl, hsu⟩
    · rw [ByteArray.extract_extract, ByteArray.extract_extract]
      have e2 : (r.extract 0 ((auU r).size + i)).size = (auU r).size + i := by rw [ByteArray.size_extract]; omega
      rw [e2]
      exact ext_congr (by omega) (by omega)
    · rw [hz, ByteArray.extract_extract]
      exact ext_congr (by omega) (by omega)
/-- The parts as they stand. -/
def lsU (a e : ByteArray) : Ur := ⟨uptS 58 a, uptS 63 e, bhS 63 e, if hasS 58 a = true then rdecN (bhS 58 a) else 80, hasS 63 e⟩
def rootB : ByteArray := ⟨#[47]⟩
def rdK (r : ByteArray) : Ur := ⟨foldB (uptS 58 (auU r)), clnB (if (uptS 63 (reU r)).size = 0 then rootB else uptS 63 (reU r)), bhS 63 r, if hasS 58 (auU r) = true then rdecN (bhS 58 (auU r)) else 80, hasS 63 r⟩
def pre7 (s : ByteArray) : Bool := decide (7 ≤ s.size) && eqB (foldB (s.extract 0 7)) schB
def rdA (s : ByteArray) : Bool := targQ s && decide (idxS 35 s < 0) && pre7 s
def rdO (s : ByteArray) : Bool := rdA s && urQ (rdK (s.extract 7 s.size))
def rdU (s : ByteArray) : Ur := if rdO s = true then rdK (s.extract 7 s.size) else ur0
theorem ret_ssU {a b x y : ByteArray} (h1 : x = a) (h2 : y = b) : Ending.returned (.tuple #[.string a, .string b]) = .returned (.tuple #[.string x, .string y]) := by rw [h1, h2]
end Go.Proofs.YtmhohponikolfabGreatDoor
namespace Go.Proofs.YtmhohponikolfabGreatDoor
set_option linter.unusedVariables false
set_option linter.unusedSimpArgs false
open Go.ChangeShapes Go.WideShapes Go.ChangeAt Go.RowKit
open Go.ChangeMaps (open_string shut_string)
theorem Tryz.own : ownKnob Tryz.prog.godebug = none := by kernel_rfl
theorem Tryz.laidOut : laidOutB Tryz.prog = true := by kernel_rfl
/-- What the walk is told of a slice of integers that came in: it is nil; or it leads to a row of 'cap' cells, the numbers 'zs' (the first 'len' are its elements, the rest its spare room), each fitting its kind. -/
def IsRow (k : IntKind) (w : World) (a : Option Addr) (len cap : Nat) (zs : List Int) : Prop :=
  (a = none ∧ len = 0 ∧ cap = 0 ∧ zs = []) ∨
  ∃ x, a = some x ∧ len ≤ cap ∧ cap ≤ maxLen ∧ zs.length = cap ∧ (∀ i, i < zs.length → w.cell? (x.add i) = some (.int k (zs.getD i 0))) ∧ ∀ n ∈ zs, (Lit.int k n).wf = true

end Go.Proofs.YtmhohponikolfabGreatDoor
namespace Go.Proofs.YtmhohponikolfabGreatDoor
set_option linter.unusedVariables false
set_option linter.unusedSimpArgs false
open Go.ChangeShapes Go.WideShapes Go.ChangeAt Go.RowKit
/-- What is asked of an address that came in. -/
structure ArgU (ho pa qu : ByteArray) : Prop where
  zho : ho.size ≤ maxLen
  zpa : pa.size ≤ maxLen
  zqu : qu.size ≤ maxLen
theorem array5 {α : Type} {cs : Array α} (h : cs.size = 5) : ∃ c0 c1 c2 c3 c4, cs = #[c0, c1, c2, c3, c4] := by
  obtain ⟨l⟩ := cs
  match l, h with
  | [c0, c1, c2, c3, c4], _ => exact ⟨c0, c1, c2, c3, c4, rfl⟩
set_option maxRecDepth 100000 in
theorem open_url {H : Type} {enc : TypeId × Value → H} {w : World} {base : Nat} {spare : Nat → Bool} {held : Bool} {r : Reach} {b0 : Nat} {t : TypeId} {f0 f1 f2 f3 f4 : Field} {v : Value} {d : DataW H} {p : List MemPlace}
    (hs : Tryz.prog.underlying t = some (.struct #[f0, f1, f2, f3, f4])) (hone : Go.Deep.oneCellFields Tryz.prog #[f0, f1, f2, f3, f4] = true) (hC : Tryz.prog.cellsOf t = 5)
    (e0 : Tryz.prog.underlying f0.type = some .string) (e1 : Tryz.prog.underlying f1.type = some (.int .i64)) (e2 : Tryz.prog.underlying f2.type = some .string) (e3 : Tryz.prog.underlying f3.type = some .string) (e4 : Tryz.prog.underlying f4.type = some .bool)
    (hv : Value.okWide Tryz.prog w r b0 t v) (h : DataW.Trod enc Tryz.prog w base spare held t v d p) :
    ∃ (ho pa qu : ByteArray) (po : Int) (hq : Bool), v = .agg #[.string ho, .int .i64 po, .string pa, .string qu, .bool hq] ∧ ArgU ho pa qu := by
  obtain ⟨cs, rfl, hsz⟩ := okWide_struct hs hv
  obtain ⟨c0, c1, c2, c3, c4, rfl⟩ := array5 (hsz.trans hC)
  obtain ⟨fuel, hf⟩ := h
  obtain ⟨xs, n, _, _, hl, hlen, hf⟩ := DataW.trod_struct hs hf
  obtain ⟨o0, k0⟩ := Go.Deep.hone_of hone 0 f0 rfl
  obtain ⟨o1, k1⟩ := Go.Deep.hone_of hone 1 f1 rfl
  obtain ⟨o2, k2⟩ := Go.Deep.hone_of hone 2 f2 rfl
  obtain ⟨o3, k3⟩ := Go.Deep.hone_of hone 3 f3 rfl
  obtain ⟨o4, k4⟩ := Go.Deep.hone_of hone 4 f4 rfl
  have g : ∀ j, j < 5 → ∃ y, xs[j]? = some y := by
    intro j hj
    have : xs.length = 5 := by simpa using hlen
    exact ⟨_, List.getElem?_eq_getElem (by omega)⟩
  have str : ∀ {ty : TypeId} {c : Value} {x : Option (DataW H × List MemPlace)}, Tryz.prog.underlying ty = some .string → (∃ y, x = some y) → DataW.trod enc Tryz.prog w base spare held n ty [c] = x → ∃ z : ByteArray, c = .string z ∧ z.size ≤ maxLen := by
    intro ty c x hu ⟨y, hy⟩ ht
    rw [hy] at ht
    obtain ⟨z, hz, _, hw⟩ := DataW.trod_string hu ht
    exact ⟨z, by simpa using hz, hw⟩
  obtain ⟨ho, rfl, z0⟩ := str e0 (g 0 (by omega)) (by simpa [Value.cells, o0, k0] using hf 0 f0 rfl)
  obtain ⟨y1, hy1⟩ := g 1 (by omega)
  have t1 : DataW.trod enc Tryz.prog w base spare held n f1.type [c1] = xs[1]? := by simpa [Value.cells, o1, k1] using hf 1 f1 rfl
  rw [hy1] at t1
  obtain ⟨po, hst, _, _⟩ := DataW.trod_int e1 t1
  obtain rfl : c1 = .int .i64 po := by simpa using hst
  obtain ⟨pa, rfl, z2⟩ := str e2 (g 2 (by omega)) (by simpa [Value.cells, o2, k2] using hf 2 f2 rfl)
  obtain ⟨qu, rfl, z3⟩ := str e3 (g 3 (by omega)) (by simpa [Value.cells, o3, k3] using hf 3 f3 rfl)
  obtain ⟨y4, hy4⟩ := g 4 (by omega)
  have t4 : DataW.trod enc Tryz.prog w base spare held n f4.type [c4] = xs[4]? := by simpa [Value.cells, o4, k4] using hf 4 f4 rfl
  rw [hy4] at t4
  obtain ⟨hq, hba, _⟩ := DataW.trod_bool e4 t4
  obtain rfl : c4 = .bool hq := by simpa using hba
  exact ⟨ho, pa, qu, po, hq, rfl, z0, z2, z3⟩
theorem Tryz.infoUrl : (Tryz.prog.info? 23).map (·.size) = some 5 := by kernel_rfl
end Go.Proofs.YtmhohponikolfabGreatDoor
namespace Go.Proofs.YtmhohponikolfabGreatDoor
set_option linter.unusedVariables false
set_option linter.unusedSimpArgs false
open Go.RowKit
theorem Blk.set5U {w : World} {g : Nat} {a b c d e : Value} {t : TypeId} (H : Blk w g #[a, b, c, d, e] t) (x0 x1 x2 x3 x4 : Value) : Blk (((((w.setCell ⟨g, 0, none⟩ x0).setCell ⟨g, 1, none⟩ x1).setCell ⟨g, 2, none⟩ x2).setCell ⟨g, 3, none⟩ x3).setCell ⟨g, 4, none⟩ x4) g #[x0, x1, x2, x3, x4] t := by
  have h0 : Blk (w.setCell ⟨g, 0, none⟩ x0) g #[x0, b, c, d, e] t := H.set 0 x0
  have h1 : Blk ((w.setCell ⟨g, 0, none⟩ x0).setCell ⟨g, 1, none⟩ x1) g #[x0, x1, c, d, e] t := h0.set 1 x1
  have h2 : Blk (((w.setCell ⟨g, 0, none⟩ x0).setCell ⟨g, 1, none⟩ x1).setCell ⟨g, 2, none⟩ x2) g #[x0, x1, x2, d, e] t := h1.set 2 x2
  have h3 : Blk ((((w.setCell ⟨g, 0, none⟩ x0).setCell ⟨g, 1, none⟩ x1).setCell ⟨g, 2, none⟩ x2).setCell ⟨g, 3, none⟩ x3) g #[x0, x1, x2, x3, e] t := h2.set 3 x3
  exact h3.set 4 x4
theorem Blk.f5U {w : World} {g : Nat} {c : Array Value} {t : TypeId} (H : Blk w g c t) : w.frozen? ⟨g, 0, none⟩ = false ∧ w.frozen? ⟨g, 1, none⟩ = false ∧ w.frozen? ⟨g, 2, none⟩ = false ∧ w.frozen? ⟨g, 3, none⟩ = false ∧ w.frozen? ⟨g, 4, none⟩ = false := ⟨H.free 0, H.free 1, H.free 2, H.free 3, H.free 4⟩
theorem below_set5 {B g : Nat} {w0 w : World} (H : Below B w0 w) (hg : B ≤ g) (x0 x1 x2 x3 x4 : Value) : Below B w0 (((((w.setCell ⟨g, 0, none⟩ x0).setCell ⟨g, 1, none⟩ x1).setCell ⟨g, 2, none⟩ x2).setCell ⟨g, 3, none⟩ x3).setCell ⟨g, 4, none⟩ x4) := ((((H.setCell (p := ⟨g, 0, none⟩) hg x0).setCell (p := ⟨g, 1, none⟩) hg x1).setCell (p := ⟨g, 2, none⟩) hg x2).setCell (p := ⟨g, 3, none⟩) hg x3).setCell (p := ⟨g, 4, none⟩) hg x4
set_option maxRecDepth 100000 in
set_option maxHeartbeats 4000000 in
theorem looseUrl_any (a e : ByteArray) (w : World) (ha : a.size ≤ 1048576) (he : e.size ≤ 1048576) :
    Calls Tryz.prog 12 #[.string a, .string e] w fun r w' => r = .returned (.agg #[.string (uptS 58 a), .int .i64 (if hasS 58 a = true then rdecN (bhS 58 a) else 80), .string (uptS 63 e), .string (bhS 63 e), .bool (hasS 63 e)]) ∧ Below w.heap.size w w' := by
  have HB := hideB2 (below_a1 w (.cells #[.string ⟨#[]⟩, .int .i64 0, .string ⟨#[]⟩, .string ⟨#[]⟩, .bool false] 23))
  have A0 := hideB2 (Blk.new w #[.string ⟨#[]⟩, .int .i64 0, .string ⟨#[]⟩, .string ⟨#[]⟩, .bool false] 23)
  have H1 := hideB2 (fun W => CutS_any a 58 W (by unfold maxLen; omega))
  have H2 := hideB2 (fun W => CutS_any e 63 W (by unfold maxLen; omega))
  have hz := bhS_size 58 a
  have HD := hideB2 (fun W => ReadDec_any (bhS 58 a) W (by unfold maxLen; omega))
  clear hz
  generalize rdecN (bhS 58 a) = n at *
  generalize rdecOk (bhS 58 a) = okn at *
  generalize bhS 58 a = d at *
  generalize uptS 58 a = h at *
  generalize uptS 63 e = p at *
  generalize bhS 63 e = q at *
  generalize hasS 63 e = b at *
  generalize hasS 58 a = told at *
  cases told
  · rw [if_neg (by simp)]
    go_enter Tryz.func12, Tryz.ntmps12
    go_wp2_with fail
    refine (H1.out _).mono ?_
    rintro e1 w1 ⟨rfl, hb1⟩
    have B1 := Blk.new w1 #[.string h, .int .i64 80, .string ⟨#[]⟩, .string ⟨#[]⟩, .bool false] 23
    have A1 := (A0.out.later hb1).alloc (.cells #[.string h, .int .i64 80, .string ⟨#[]⟩, .string ⟨#[]⟩, .bool false] 23)
    have hb1' := below_then (below_then HB.out hb1) (below_a1 w1 (.cells #[.string h, .int .i64 80, .string ⟨#[]⟩, .string ⟨#[]⟩, .bool false] 23))
    have hlt := (A0.out.later hb1).lt
    clear hb1 HB A0
    go_wp2_with fail
    refine (H2.out _).mono ?_
    rintro e2 w2 ⟨rfl, hb2⟩
    have B2 := B1.later hb2
    have A2 := A1.later hb2
    have HB2 := hideB2 (below_then hb1' hb2)
    obtain ⟨p0, p1, p2, p3, p4⟩ := B2.u5
    obtain ⟨f0, f1, f2, f3, f4⟩ := B2.f5U
    obtain ⟨a0, a1, a2, a3, a4⟩ := A2.u5
    obtain ⟨g0, g1, g2, g3, g4⟩ := A2.f5U
    have HA2 := hideB2 A2
    clear B1 B2 A1 A2 hb1' hb2 H1 H2
    generalize w1.heap.size = G at *
    have hne : G ≠ w.heap.size := by omega
    have hne' : w.heap.size ≠ G := by omega
    go_wp2
    refine bodyPost_ret (results_cellS rfl _ _ _ rfl ((((HA2.out.other hne 2 _).other hne 3 _).other hne 4 _).set5U _ _ _ _ _) Tryz.underlying23 Tryz.infoUrl) rfl ⟨rfl, ?_⟩
    exact below_set5 (((HB2.out.setCell (p := ⟨G, 2, none⟩) (by show w.heap.size ≤ G; omega) _).setCell (p := ⟨G, 3, none⟩) (by show w.heap.size ≤ G; omega) _).setCell (p := ⟨G, 4, none⟩) (by show w.heap.size ≤ G; omega) _) (Nat.le_refl _) _ _ _ _ _
  · rw [if_pos rfl]
    go_enter Tryz.func12, Tryz.ntmps12
    go_wp2_with fail
    refine (H1.out _).mono ?_
    rintro e1 w1 ⟨rfl, hb1⟩
    have B1 := Blk.new w1 #[.string h, .int .i64 n, .string ⟨#[]⟩, .string ⟨#[]⟩, .bool false] 23
    have A1 := (A0.out.later hb1).alloc (.cells #[.string h, .int .i64 n, .string ⟨#[]⟩, .string ⟨#[]⟩, .bool false] 23)
    have hb1' := below_then (below_then HB.out hb1) (below_a1 w1 (.cells #[.string h, .int .i64 n, .string ⟨#[]⟩, .string ⟨#[]⟩, .bool false] 23))
    have hlt := (A0.out.later hb1).lt
    clear hb1 HB A0
    go_wp2_with (first | (go_at_call 23; refine (HD.out _).mono ?_; rintro e3 w3 ⟨rfl, rfl⟩) | fail)
    refine (H2.out _).mono ?_
    rintro e2 w2 ⟨rfl, hb2⟩
    have B2 := B1.later hb2
    have A2 := A1.later hb2
    have HB2 := hideB2 (below_then hb1' hb2)
    obtain ⟨p0, p1, p2, p3, p4⟩ := B2.u5
    obtain ⟨f0, f1, f2, f3, f4⟩ := B2.f5U
    obtain ⟨a0, a1, a2, a3, a4⟩ := A2.u5
    obtain ⟨g0, g1, g2, g3, g4⟩ := A2.f5U
    have HA2 := hideB2 A2
    clear B1 B2 A1 A2 hb1' hb2 H1 H2
    have hne : w1.heap.size ≠ w.heap.size := by omega
    have hne' : w.heap.size ≠ w1.heap.size := by omega
    generalize w1.heap.size = G at *
    go_wp2
    refine bodyPost_ret (results_cellS rfl _ _ _ rfl ((((HA2.out.other hne 2 _).other hne 3 _).other hne 4 _).set5U _ _ _ _ _) Tryz.underlying23 Tryz.infoUrl) rfl ⟨rfl, ?_⟩
    exact below_set5 (((HB2.out.setCell (p := ⟨G, 2, none⟩) (by show w.heap.size ≤ G; omega) _).setCell (p := ⟨G, 3, none⟩) (by show w.heap.size ≤ G; omega) _).setCell (p := ⟨G, 4, none⟩) (by show w.heap.size ≤ G; omega) _) (Nat.le_refl _) _ _ _ _ _
theorem clnB_size (p : ByteArray) : (clnB p).size ≤ 202 := by
  cases hp : pthQ p
  · rw [clnB_no hp]; show (0 : Nat) ≤ _; omega
  · rw [clnB_yes hp]
    have hz : p.size ≤ 200 := by
      unfold pthQ at hp
      rw [Bool.and_eq_true, Bool.and_eq_true] at hp
      exact (targQ_iff.1 hp.1.1).2.1
    have h1 := evB_size (p.extract 1 p.size)
    have h2 : (p.extract 1 p.size).size ≤ p.size := by rw [ByteArray.size_extract]; omega
    generalize evB (p.extract 1 p.size) = y at *
    have h3 := splS_len 47 y
    have h4 := splS_sum 47 y.size y (Nat.le_refl _)
    generalize splS 47 y = L at *
    have h5 := keptL_le L
    generalize keptL L = K at *
    unfold clnL
    split
    · show (1 : Nat) ≤ _; omega
    · show (tailS 47 K).toArray.size ≤ _
      rw [List.size_toArray, tailS_len]
      omega
theorem ext7 {s : ByteArray} (h : 7 ≤ s.size) : (foldB s).extract 0 7 = foldB (s.extract 0 7) := by
  apply bytes_ext
  rw [Lib.extract_data]
  unfold foldB foldL
  rw [Lib.extract_data]
  simp [List.map_take]
set_option maxHeartbeats 1000000 in
theorem HasPre7_any (s : ByteArray) (w : World) (hs : s.size ≤ maxLen) :
    Calls Tryz.prog 47 #[.string (foldB s), .string ⟨#[104, 116, 116, 112, 58, 47, 47]⟩] w fun e w' => e = .returned (.bool (pre7 s)) ∧ w' = w := by
  unfold maxLen at hs
  have hz := foldB_size s
  by_cases h7 : 7 ≤ s.size
  · have e1 : pre7 s = ((foldB s).extract 0 7).toList.beq [104, 116, 116, 112, 58, 47, 47] := by
      unfold pre7
      rw [decide_eq_true h7, Bool.true_and, ext7 h7]
      unfold eqB
      rw [ByteArray.toList_eq schB]
      rfl
    have h1 : (7 : Int) ≤ ((foldB s).size : Int) := by omega
    have h2 : (((foldB s).extract 0 7).toList == [104, 116, 116, 112, 58, 47, 47]) = pre7 s := e1.symm
    clear e1 h7
    generalize foldB s = x at *
    generalize pre7 s = q at *
    go_enter Tryz.func47, Tryz.ntmps47
    go_wp2
    go_ret
    exact ⟨by first | rfl | (rw [h2]), rfl⟩
  · have e1 : pre7 s = false := by unfold pre7; rw [decide_eq_false h7]; rfl
    have h1 : ¬ (7 : Int) ≤ ((foldB s).size : Int) := by omega
    rw [e1]
    clear e1 h7
    generalize foldB s = x at *
    go_enter Tryz.func47, Tryz.ntmps47
    go_wp2
    go_ret
    exact ⟨rfl, rfl⟩
theorem rdA_no {s : ByteArray} (h : rdA s = false) : rdO s = false ∧ rdU s = ur0 := by
  have h1 : rdO s = false := by unfold rdO; rw [h]; rfl
  exact ⟨h1, by unfold rdU; rw [h1]; rfl⟩
theorem rdA_yes {s : ByteArray} (h : rdA s = true) : rdO s = urQ (rdK (s.extract 7 s.size)) ∧ rdU s = if urQ (rdK (s.extract 7 s.size)) = true then rdK (s.extract 7 s.size) else ur0 := by
  have h1 : rdO s = urQ (rdK (s.extract 7 s.size)) := by unfold rdO; rw [h, Bool.true_and]
  exact ⟨h1, by unfold rdU; rw [h1]⟩
theorem vis_at {s : ByteArray} (h : targQ s = true) : ∀ j, j < s.size → (at8 s j).toNat < 128 := by
  intro j hj
  have hl : j < s.data.toList.length := by rw [len_data]; exact hj
  have e : s.data.toList[j]? = some (at8 s j) := by
    unfold at8
    rw [List.getD, List.getElem?_eq_getElem hl, Option.getD_some]
  exact vis_ascii h j _ e
end Go.Proofs.YtmhohponikolfabGreatDoor
namespace Go.Proofs.YtmhohponikolfabGreatDoor
set_option linter.unusedVariables false
set_option linter.unusedSimpArgs false
open Go.RowKit
theorem cln_root : clnB rootB = rootB := by
  have h1 : pthQ rootB = true := by decide
  have h2 : evB (rootB.extract 1 rootB.size) = ⟨#[]⟩ := evB_nil (by rw [ByteArray.size_extract]; decide)
  have h3 : splS 47 ⟨#[]⟩ = [⟨#[]⟩] := (splS_none (c := 47) (s := ⟨#[]⟩) (idxS_miss (fun j hj => absurd hj (Nat.not_lt_zero j)))).2
  have h4 : eqB ⟨#[]⟩ dd = false := by unfold eqB; rw [ByteArray.toList_eq, ByteArray.toList_eq]; rfl
  have h5 : eqB ⟨#[]⟩ d1 = false := by unfold eqB; rw [ByteArray.toList_eq, ByteArray.toList_eq]; rfl
  rw [clnB_yes h1, h2, h3]
  have h6 : keepL [⟨#[]⟩] = [⟨#[]⟩] := by
    show keepS [] ⟨#[]⟩ = _
    unfold keepS; rw [h4, h5]; rfl
  have h7 : lastDot [⟨#[]⟩] = false := by
    show dotQ ⟨#[]⟩ = false
    unfold dotQ; rw [h4, h5]; rfl
  unfold keptL
  rw [h7, h6]
  rfl
theorem rdK_spec (r : ByteArray) : rdK r = ⟨foldB (uptS 58 (auU r)), if (auU r).size < (uptS 63 r).size then clnB ((uptS 63 r).extract (auU r).size (uptS 63 r).size) else rootB, if (uptS 63 r).size < r.size then r.extract ((uptS 63 r).size + 1) r.size else ⟨#[]⟩, if (uptS 58 (auU r)).size < (auU r).size then rdecN ((auU r).extract ((uptS 58 (auU r)).size + 1) (auU r).size) else 80, decide ((uptS 63 r).size < r.size)⟩ := by
  obtain ⟨k1, k2, k3, k4⟩ := reU_cut r
  obtain ⟨c1, c2⟩ := cut_len 63 r
  obtain ⟨d1, d2⟩ := cut_len 58 (auU r)
  unfold rdK
  rw [k1, c1, c2, d1, d2]
  have hz : ((uptS 63 r).extract (auU r).size (uptS 63 r).size).size = (uptS 63 r).size - (auU r).size := by rw [ByteArray.size_extract]; omega
  have e1 : clnB (if ((uptS 63 r).extract (auU r).size (uptS 63 r).size).size = 0 then rootB else (uptS 63 r).extract (auU r).size (uptS 63 r).size) = if (auU r).size < (uptS 63 r).size then clnB ((uptS 63 r).extract (auU r).size (uptS 63 r).size) else rootB := by
    by_cases h : (auU r).size < (uptS 63 r).size
    · rw [if_pos h, if_neg (show ¬ ((uptS 63 r).extract (auU r).size (uptS 63 r).size).size = 0 by omega)]
    · rw [if_neg h, if_pos (show ((uptS 63 r).extract (auU r).size (uptS 63 r).size).size = 0 by omega), cln_root]
  have e2 : (if decide ((uptS 58 (auU r)).size < (auU r).size) = true then rdecN (if (uptS 58 (auU r)).size < (auU r).size then (auU r).extract ((uptS 58 (auU r)).size + 1) (auU r).size else ⟨#[]⟩) else 80) = if (uptS 58 (auU r)).size < (auU r).size then rdecN ((auU r).extract ((uptS 58 (auU r)).size + 1) (auU r).size) else 80 := by
    by_cases h : (uptS 58 (auU r)).size < (auU r).size
    · rw [decide_eq_true h, if_pos rfl, if_pos h, if_pos h]
    · rw [decide_eq_false h, if_neg (by simp), if_neg h]
  rw [e1, e2]
theorem rdO_short {s : ByteArray} (h : s.size < 8) : rdO s = false := by
  unfold rdO
  cases hp : rdA s
  · rfl
  · have hr : s.extract 7 s.size = ⟨#[]⟩ := size_nil (by rw [ByteArray.size_extract]; omega)
    rw [hr, Bool.true_and]
    have hau : auU ⟨#[]⟩ = ⟨#[]⟩ := auU_none (fun j hj => absurd hj (Nat.not_lt_zero j))
    have hho : uptS 58 ⟨#[]⟩ = ⟨#[]⟩ := uptS_none (idxS_miss (fun j hj => absurd hj (Nat.not_lt_zero j)))
    unfold urQ urlQ
    have e : (rdK ⟨#[]⟩).ho = ⟨#[]⟩ := by
      show foldB (uptS 58 (auU ⟨#[]⟩)) = _
      rw [hau, hho]; rfl
    rw [e, hostQ_empty rfl]
    rfl
theorem rdU_no {s : ByteArray} (h : rdO s = false) : rdU s = ur0 := by unfold rdU; rw [h]; rfl
theorem urQ_port {u : Ur} (h : u.po = 0) : urQ u = false := by
  unfold urQ urlQ withinB
  rw [h]
  simp
theorem eqB_upt35 (s : ByteArray) : ((uptS 35 s).toList == s.toList) = decide (idxS 35 s < 0) := eqB_upt s
theorem sch_eq {x : ByteArray} : (x.toList == [104, 116, 116, 112, 58, 47, 47]) = eqB x schB := by
  unfold eqB; rw [ByteArray.toList_eq schB]; rfl
end Go.Proofs.YtmhohponikolfabGreatDoor
namespace Go.Proofs.YtmhohponikolfabGreatDoor
set_option linter.unusedVariables false
set_option linter.unusedSimpArgs false
open Go.RowKit
theorem rdK_ho (r : ByteArray) : (rdK r).ho = foldB (uptS 58 (auU r)) := by simp only [rdK]
theorem rdK_pa (r : ByteArray) : (rdK r).pa = clnB (if (uptS 63 (reU r)).size = 0 then rootB else uptS 63 (reU r)) := by simp only [rdK]
theorem rdK_qu (r : ByteArray) : (rdK r).qu = bhS 63 r := by simp only [rdK]
theorem rdU_sizes (s : ByteArray) : (rdU s).ho.size ≤ s.size ∧ (rdU s).pa.size ≤ 202 ∧ (rdU s).qu.size ≤ s.size := by
  have h1 := uptS_size 58 (auU (s.extract 7 s.size))
  have h2 := auU_size (s.extract 7 s.size)
  have h3 : (s.extract 7 s.size).size ≤ s.size := by rw [ByteArray.size_extract]; omega
  have h4 := bhS_size 63 (s.extract 7 s.size)
  have h5 := clnB_size (if (uptS 63 (reU (s.extract 7 s.size))).size = 0 then rootB else uptS 63 (reU (s.extract 7 s.size)))
  rw [← rdK_pa] at h5
  rw [← rdK_qu] at h4
  rw [← foldB_size, ← rdK_ho] at h1
  unfold rdU
  generalize rdK (s.extract 7 s.size) = K at *
  by_cases h : rdO s = true
  · rw [if_pos h]
    exact ⟨by omega, h5, by omega⟩
  · rw [if_neg h]
    have e : ur0.ho.size = 0 ∧ ur0.pa.size = 0 ∧ ur0.qu.size = 0 := ⟨rfl, rfl, rfl⟩
    omega
theorem ret_sbU {s t : ByteArray} {a b : Bool} (h : t = s) (h' : b = a) : Ending.returned (.tuple #[.string s, .bool a]) = .returned (.tuple #[.string t, .bool b]) := by rw [h, h']
def canB (s : ByteArray) : ByteArray := textB (rdU s).ho (rdU s).pa (rdU s).qu (rdU s).po (rdU s).hq
theorem urQ_zero : urQ ur0 = false := urQ_port rfl
theorem canB_no {s : ByteArray} (h : rdO s = false) : canB s = ⟨#[]⟩ := by
  unfold canB
  rw [rdU_no h]
  unfold textB
  rw [if_neg]
  have := urQ_zero
  unfold urQ at this
  rw [this]; simp
set_option maxHeartbeats 1000000 in
theorem eqUrl_same (ho pa qu : ByteArray) (po : Int) (hq : Bool) (w : World) :
    Calls Tryz.prog 6 #[.agg #[.string ho, .int .i64 po, .string pa, .string qu, .bool hq], .agg #[.string ho, .int .i64 po, .string pa, .string qu, .bool hq]] w fun e w' => e = .returned (.bool true) ∧ Below w.heap.size w w' := by
  have HB := hideB2 (below_a2 w (.cells #[.string ho, .int .i64 po, .string pa, .string qu, .bool hq] 23) (.cells #[.string ho, .int .i64 po, .string pa, .string qu, .bool hq] 23))
  have e1 : (ho.toList == ho.toList) = true := by simp
  have e2 : (pa.toList == pa.toList) = true := by simp
  have e3 : (qu.toList == qu.toList) = true := by simp
  have e4 : (po != po) = false := by simp
  have e5 : (hq != hq) = false := by cases hq <;> rfl
  go_enter Tryz.func6, Tryz.ntmps6
  go_wp2
  go_ret
  exact ⟨rfl, HB.out⟩
end Go.Proofs.YtmhohponikolfabGreatDoor
namespace Go.Proofs.YtmhohponikolfabGreatDoor
set_option linter.unusedVariables false
set_option linter.unusedSimpArgs false
open Go.RowKit
theorem at8_app1 {a b : ByteArray} {j : Nat} (h : j < a.size) : at8 (a ++ b) j = at8 a j := by
  have hl : j < a.data.toList.length := by rw [len_data]; exact h
  unfold at8
  rw [Go.Joins.data_append, List.getD, List.getD, List.getElem?_append_left hl]
theorem at8_app2 {a b : ByteArray} {j : Nat} : at8 (a ++ b) (a.size + j) = at8 b j := by
  unfold at8
  rw [Go.Joins.data_append, List.getD, List.getD, List.getElem?_append_right (by rw [len_data]; omega), len_data, Nat.add_sub_cancel_left]
theorem nob_iff {c : UInt8} {s : ByteArray} : allB (fun b => b != c) s = true ↔ idxS c s = -1 := by
  constructor
  · intro h
    refine idxS_miss (fun j hj he => ?_)
    have := allB_no (p := fun b => b != c) hj (by show (at8 s j != c) = false; rw [he]; simp)
    rw [h] at this; cases this
  · intro h
    refine allB_yes (fun j hj => ?_)
    have := idxS_none h j hj
    show (at8 s j != c) = true
    rw [bne_iff_ne]; exact this
theorem idxS_mid {c : UInt8} {a b : ByteArray} (h : idxS c a = -1) : idxS c ((a ++ (⟨#[c]⟩ : ByteArray)) ++ b) = (a.size : Int) := by
  have e1 : (⟨#[c]⟩ : ByteArray).size = 1 := rfl
  refine idxS_of ?_ ?_ ?_
  · rw [ByteArray.size_append, ByteArray.size_append]; omega
  · rw [bytes_assoc]
    have := at8_app2 (a := a) (b := (⟨#[c]⟩ : ByteArray) ++ b) (j := 0)
    rw [Nat.add_zero] at this
    rw [this, at8_app1 (by rw [e1]; omega)]
    rfl
  · intro j hj
    rw [bytes_assoc, at8_app1 hj]
    exact idxS_none h j hj
theorem ext_app1 (a b : ByteArray) : (a ++ b).extract 0 a.size = a := by
  apply bytes_ext
  rw [Lib.extract_data, Go.Joins.data_append, List.drop_zero, Nat.sub_zero, ← len_data a]
  exact List.take_left
theorem ext_app2 (a b : ByteArray) : (a ++ b).extract a.size (a ++ b).size = b := by
  apply bytes_ext
  rw [Lib.extract_data, Go.Joins.data_append, ← len_data a, List.drop_left]
  exact List.take_of_length_le (by rw [len_data, ByteArray.size_append, len_data]; omega)
theorem upt_mid {c : UInt8} {a b : ByteArray} (h : idxS c a = -1) : uptS c ((a ++ (⟨#[c]⟩ : ByteArray)) ++ b) = a := by
  rw [uptS_some (idxS_mid h), bytes_assoc]
  exact ext_app1 _ _
theorem bh_mid {c : UInt8} {a b : ByteArray} (h : idxS c a = -1) : bhS c ((a ++ (⟨#[c]⟩ : ByteArray)) ++ b) = b := by
  rw [(cut_some (idxS_mid h)).2.1]
  have e : a.size + 1 = (a ++ (⟨#[c]⟩ : ByteArray)).size := by rw [ByteArray.size_append]; rfl
  rw [e]
  exact ext_app2 _ _
theorem joinS_one (c : UInt8) (x : ByteArray) : joinS c [x] = x := by
  apply bytes_ext
  have h := joinS_tail c x []
  rw [tailS_cons, tailS_nil, List.append_nil] at h
  injection h
theorem joinS_two (c : UInt8) (x y : ByteArray) (r : List ByteArray) : joinS c (x :: y :: r) = (x ++ (⟨#[c]⟩ : ByteArray)) ++ joinS c (y :: r) := by
  apply bytes_ext
  have h1 := joinS_tail c x (y :: r)
  have h2 := joinS_tail c y r
  rw [tailS_cons, ← h2] at h1
  injection h1 with _ h1
  rw [h1, Go.Joins.data_append, Go.Joins.data_append]
  simp
theorem split_join (c : UInt8) : ∀ (l : List ByteArray), l ≠ [] → (∀ x ∈ l, idxS c x = -1) → splS c (joinS c l) = l
  | [], h, _ => absurd rfl h
  | [x], _, hn => by rw [joinS_one]; exact (splS_none (hn x List.mem_cons_self)).2
  | x :: y :: r, _, hn => by
    have hx := hn x List.mem_cons_self
    have ih := split_join c (y :: r) (by simp) (fun z hz => hn z (List.mem_cons_of_mem _ hz))
    rw [joinS_two, (splS_some (idxS_mid hx)).2]
    have e1 := upt_mid (b := joinS c (y :: r)) hx
    rw [uptS_some (idxS_mid hx)] at e1
    have e2 := bh_mid (b := joinS c (y :: r)) hx
    rw [(cut_some (idxS_mid hx)).2.1] at e2
    rw [e1, e2, ih]
theorem joinS_all {q : UInt8 → Bool} {d : UInt8} (hd : q d = true) : ∀ (l : List ByteArray), (∀ x ∈ l, allB q x = true) → allB q (joinS d l) = true
  | [], _ => rfl
  | [x], h => by rw [joinS_one]; exact h x List.mem_cons_self
  | x :: y :: r, h => by
    rw [joinS_two, all_app, all_app, h x List.mem_cons_self, joinS_all hd (y :: r) (fun z hz => h z (List.mem_cons_of_mem _ hz))]
    show (true && allB q ⟨#[d]⟩ && true) = true
    rw [show allB q ⟨#[d]⟩ = q d by unfold allB; simp, hd]
    rfl
theorem joinS_size_eq (c : UInt8) (l : List ByteArray) (h : l ≠ []) : (joinS c l).size + 1 = l.length + sumS l := by
  cases l with
  | nil => exact absurd rfl h
  | cons x r =>
    have h1 := congrArg List.length (joinS_tail c x r)
    rw [tailS_len, List.length_cons, len_data] at h1
    exact h1
theorem turnB_size_eq (h : ByteArray) (c d : UInt8) : (turnB h c d).size = h.size := by
  have h1 := joinS_size_eq d (splS c h).reverse (by simpa using splS_ne c h)
  have h2 := splS_len c h
  have h3 := splS_sum c h.size h (Nat.le_refl _)
  rw [List.length_reverse, sumS_rev] at h1
  unfold turnB
  omega
/-- Of a host: each piece is of its own signs, none is empty. -/
theorem host_pieces {h : ByteArray} (hq : hostQ h = true) : ∀ x ∈ splS 46 h, allB pc8 x = true ∧ x.size ≠ 0 := by
  intro x hx
  unfold hostQ at hq
  rw [Bool.and_eq_true, Bool.and_eq_true] at hq
  have h1 := hq.1.2
  rw [hst_pieces, List.all_eq_true] at h1
  refine ⟨h1 x hx, fun h0 => ?_⟩
  have h2 : (splS 46 h).any (fun x => eqB x ⟨#[]⟩) = true := List.any_eq_true.2 ⟨x, hx, by rw [size_nil h0]; exact eqB_self _⟩
  rw [h2] at hq
  cases hq.2
def tn8 (b : UInt8) : Bool := pc8 b || b == 44
theorem turn_all {h : ByteArray} (hq : hostQ h = true) : allB tn8 (turnB h 46 44) = true := by
  refine joinS_all (q := tn8) (d := 44) rfl _ (fun x hx => ?_)
  have := (host_pieces hq x (List.mem_reverse.1 hx)).1
  exact allB_mono this (fun b hb => by unfold tn8; rw [hb]; rfl)
theorem pc_ne {b c : UInt8} (hc : pc8 c = false) (h : pc8 b = true) : b ≠ c := by
  intro e; subst e; rw [h] at hc; cases hc
theorem tn_no {h : ByteArray} (hq : hostQ h = true) {c : UInt8} (hc : pc8 c = false) (h44 : c ≠ 44) : idxS c (turnB h 46 44) = -1 := by
  refine nob_iff.1 (allB_mono (turn_all hq) (fun b hb => ?_))
  rw [bne_iff_ne]
  intro e
  subst e
  unfold tn8 at hb
  rw [hc, Bool.false_or, beq_iff_eq] at hb
  exact h44 hb
theorem turn_split {h : ByteArray} (hq : hostQ h = true) : splS 44 (turnB h 46 44) = (splS 46 h).reverse := by
  refine split_join 44 _ (by simpa using splS_ne 46 h) (fun x hx => ?_)
  have := (host_pieces hq x (List.mem_reverse.1 hx)).1
  exact nob_iff.1 (allB_mono this (fun b hb => by rw [bne_iff_ne]; exact pc_ne (by decide) hb))
theorem port_no {n : Int} {c : UInt8} (h1 : (58 : UInt8) ≠ c) (hc : digP (c.toNat : Int) = false) : idxS c (portB n) = -1 := by
  refine nob_iff.1 ?_
  unfold portB
  split
  · rfl
  · rw [all_app]
    have e1 : allB (fun b => b != c) ⟨#[58]⟩ = true := by
      unfold allB
      simp [h1]
    rw [e1, Bool.true_and]
    unfold decT
    split
    · unfold allB decB
      rw [List.all_eq_true]
      intro b hb
      have hd := allDig_dec n.toNat
      unfold allDig at hd
      rw [List.all_eq_true] at hd
      have h2 : dig8 b = true := hd b hb
      show (b != c) = true
      rw [bne_iff_ne]
      intro e
      subst e
      unfold dig8 at h2
      rw [hc] at h2; cases h2
    · rfl
/-- The place of an address. -/
def suU (u : Ur) : ByteArray := surtB u.ho u.pa u.qu u.po u.hq
theorem suU_form {u : Ur} (h : urQ u = true) : suU u = ((turnB u.ho 46 44 ++ portB u.po) ++ (⟨#[41]⟩ : ByteArray)) ++ (u.pa ++ qryB u.qu u.hq) := by
  unfold suU surtB
  rw [if_pos (show urlQ u.ho u.pa u.qu u.po u.hq = true from h), bytes_assoc]
theorem suU_no {u : Ur} (h : urQ u = false) : suU u = ⟨#[]⟩ := by
  unfold suU surtB
  rw [if_neg (show ¬ urlQ u.ho u.pa u.qu u.po u.hq = true from by unfold urQ at h; rw [h]; simp)]
theorem urQ_host {u : Ur} (h : urQ u = true) : hostQ u.ho = true := by
  unfold urQ urlQ at h
  simp only [Bool.and_eq_true] at h
  exact h.1.1.1.1.1
theorem suU_parts {u : Ur} (h : urQ u = true) : hasS 41 (suU u) = true ∧ uptS 58 (uptS 41 (suU u)) = turnB u.ho 46 44 ∧ (suU u).size ≤ 200 ∧ suU u ≠ ⟨#[]⟩ := by
  have hh := urQ_host h
  have h1 : idxS 41 (turnB u.ho 46 44 ++ portB u.po) = -1 := by
    refine nob_iff.1 ?_
    rw [all_app, nob_iff.2 (tn_no hh (by decide) (by decide)), nob_iff.2 (port_no (by decide) (by decide))]
    rfl
  have hf := suU_form h
  have hm := idxS_mid (b := u.pa ++ qryB u.qu u.hq) h1
  refine ⟨?_, ?_, ?_, ?_⟩
  · rw [hf, (cut_some hm).2.2]
  · rw [hf, upt_mid h1]
    unfold portB
    have h58 := tn_no hh (c := 58) (by decide) (by decide)
    split
    · rw [bytes_nil_right]; exact uptS_none h58
    · rw [← bytes_assoc]; exact upt_mid h58
  · have h2 : targQ (utxt u.ho u.pa u.qu u.po u.hq) = true := by
      unfold urQ urlQ at h
      simp only [Bool.and_eq_true] at h
      exact h.2
    have h3 := (targQ_iff.1 h2).2.1
    rw [utxt_size] at h3
    rw [hf, ByteArray.size_append, ByteArray.size_append, ByteArray.size_append, ByteArray.size_append, turnB_size_eq]
    have e1 : (⟨#[41]⟩ : ByteArray).size = 1 := rfl
    omega
  · intro he
    have := congrArg ByteArray.size he
    rw [hf, ByteArray.size_append, ByteArray.size_append] at this
    have e1 : (⟨#[41]⟩ : ByteArray).size = 1 := rfl
    have e2 : (⟨#[]⟩ : ByteArray).size = 0 := rfl
    omega
/-- The parts of a place, the host turned back. -/
def usT (t s : ByteArray) : Ur := ⟨t, uptS 63 (bhS 41 s), bhS 63 (bhS 41 s), if hasS 58 (uptS 41 s) = true then rdecN (bhS 58 (uptS 41 s)) else 80, hasS 63 (bhS 41 s)⟩
def hoS (s : ByteArray) : ByteArray := uptS 58 (uptS 41 s)
def usK (s : ByteArray) : Ur := usT (turnB (hoS s) 44 46) s
def usO (s : ByteArray) : Bool := urQ (usK s) && eqB (suU (usK s)) s
def usU (s : ByteArray) : Ur := if usO s = true then usK s else ur0
/-- As the specification looks at it. -/
def ssK (s : ByteArray) : Ur := usT (turnS (hoS s) 44 46) s
theorem turn_same {h : ByteArray} (hx : ∀ x r, (splS 44 h).reverse = x :: r → x.size ≠ 0) : turnS h 44 46 = turnB h 44 46 := by
  unfold turnS turnB
  cases hr : (splS 44 h).reverse with
  | nil => rfl
  | cons x r => exact trnF_join 46 x r (hx x r hr)
theorem turn_empty {h : ByteArray} {x : ByteArray} {r : List ByteArray} (hr : (splS 44 h).reverse = x :: r) (h0 : x.size = 0) : hostQ (turnB h 44 46) = false := by
  have hx := size_nil h0
  subst hx
  have hany : (splS 46 (turnB h 44 46)).any (fun x => eqB x ⟨#[]⟩) = true := by
    unfold turnB
    rw [hr]
    cases r with
    | nil => rw [joinS_one, (splS_none (c := 46) (s := ⟨#[]⟩) (idxS_miss (fun j hj => absurd hj (Nat.not_lt_zero j)))).2]; exact List.any_eq_true.2 ⟨⟨#[]⟩, List.mem_cons_self, eqB_self _⟩
    | cons y r =>
      have hn : idxS 46 (⟨#[]⟩ : ByteArray) = -1 := idxS_miss (fun j hj => absurd hj (Nat.not_lt_zero j))
      rw [joinS_two, (splS_some (idxS_mid hn)).2]
      refine List.any_eq_true.2 ⟨_, List.mem_cons_self, ?_⟩
      rw [size_nil (x := ByteArray.extract _ 0 _) (by rw [ByteArray.size_extract]; show min 0 _ - 0 = 0; omega)]
      exact eqB_self _
  unfold hostQ
  rw [hany]
  simp
theorem usK_ho (s : ByteArray) : (usK s).ho = turnB (hoS s) 44 46 := by simp only [usK, usT]
theorem us_same (s : ByteArray) : (s.size ≤ 200 ∧ hasS 41 s = true ∧ suU (ssK s) = s ∧ s ≠ ⟨#[]⟩ ↔ usO s = true) ∧ (usO s = true → ssK s = usK s) := by
  have back : usO s = true → ssK s = usK s := by
    intro h
    unfold usO at h
    rw [Bool.and_eq_true] at h
    have hh := urQ_host h.1
    rw [usK_ho] at hh
    unfold ssK usK
    rw [turn_same (fun x r hr h0 => by rw [turn_empty hr h0] at hh; cases hh)]
  refine ⟨⟨?_, ?_⟩, back⟩
  · rintro ⟨h1, h2, h3, h4⟩
    have hq : urQ (ssK s) = true := by
      cases hq : urQ (ssK s) with
      | true => rfl
      | false => rw [suU_no hq] at h3; exact absurd h3.symm h4
    obtain ⟨_, g2, _, _⟩ := suU_parts hq
    rw [h3] at g2
    have hh := urQ_host hq
    have hts : turnS (hoS s) 44 46 = turnB (hoS s) 44 46 := by
      refine turn_same (fun x r hr h0 => ?_)
      have e : hoS s = turnB (ssK s).ho 46 44 := g2
      rw [e, turn_split hh, List.reverse_reverse] at hr
      exact (host_pieces hh x (by rw [hr]; exact List.mem_cons_self)).2 h0
    have hk : ssK s = usK s := by unfold ssK usK; rw [hts]
    unfold usO
    rw [← hk, hq, h3, eqB_self]; rfl
  · intro h
    have hk := back h
    unfold usO at h
    rw [Bool.and_eq_true] at h
    obtain ⟨g1, _, g3, g4⟩ := suU_parts h.1
    have e := eqB_iff.1 h.2
    rw [e] at g1 g3 g4
    exact ⟨g3, g1, by rw [hk]; exact e, g4⟩
end Go.Proofs.YtmhohponikolfabGreatDoor
namespace Go.Proofs.YtmhohponikolfabGreatDoor
set_option linter.unusedVariables false
set_option linter.unusedSimpArgs false
open Go.RowKit
theorem usO_no1 {s : ByteArray} (h : urQ (usK s) = false) : usO s = false ∧ usU s = ur0 := by
  have h1 : usO s = false := by unfold usO; rw [h, Bool.false_and]
  exact ⟨h1, by unfold usU; rw [if_neg (by rw [h1]; simp)]⟩
theorem usO_no2 {s : ByteArray} (h : eqB (suU (usK s)) s = false) : usO s = false ∧ usU s = ur0 := by
  have h1 : usO s = false := by unfold usO; rw [h, Bool.and_false]
  exact ⟨h1, by unfold usU; rw [if_neg (by rw [h1]; simp)]⟩
theorem usO_yes {s : ByteArray} (h : urQ (usK s) = true) (h2 : eqB (suU (usK s)) s = true) : usO s = true ∧ usU s = usK s := by
  have h1 : usO s = true := by unfold usO; rw [h, h2, Bool.and_self]
  exact ⟨h1, by unfold usU; rw [if_pos h1]⟩
theorem usK_form (s : ByteArray) : usK s = ⟨turnB (uptS 58 (uptS 41 s)) 44 46, uptS 63 (bhS 41 s), bhS 63 (bhS 41 s), if hasS 58 (uptS 41 s) = true then rdecN (bhS 58 (uptS 41 s)) else 80, hasS 63 (bhS 41 s)⟩ := by
  simp only [usK, usT, hoS]
set_option maxRecDepth 100000 in
set_option maxHeartbeats 8000000 in
theorem Unsurt_any (s : ByteArray) (w : World) (hs : s.size ≤ 1048576) (htab : Tab10 w) :
    Calls Tryz.prog 5 #[.string s] w fun e w' => e = .returned (.tuple #[valU (usU s), .bool (usO s)]) ∧ Below w.heap.size w w' := by
  have HB := hideB2 (below_a1 w (.cells #[.string ⟨#[]⟩, .int .i64 0, .string ⟨#[]⟩, .string ⟨#[]⟩, .bool false] 23))
  have A0 := hideB2 (Blk.new w #[.string ⟨#[]⟩, .int .i64 0, .string ⟨#[]⟩, .string ⟨#[]⟩, .bool false] 23)
  have HT := hideB2 htab
  have H1 := hideB2 (fun W => CutS_any s 41 W (by unfold maxLen; omega))
  have z1 := uptS_size 41 s
  have z2 := bhS_size 41 s
  have HK0 := usK_form s
  have N1 := hideB2 (fun h => usO_no1 (s := s) h)
  have N2 := hideB2 (fun h => usO_no2 (s := s) h)
  have N3 := hideB2 (fun h h2 => usO_yes (s := s) h h2)
  clear htab
  generalize usU s = U at *
  generalize usO s = O at *
  generalize usK s = K at *
  generalize uptS 41 s = a at *
  generalize bhS 41 s = e at *
  generalize hasS 41 s = hs41 at *
  have H2 := hideB2 (fun W => looseUrl_any a e W (by omega) (by omega))
  have z3 := uptS_size 58 a
  have z4 := uptS_size 63 e
  have z5 := bhS_size 63 e
  generalize (if hasS 58 a = true then rdecN (bhS 58 a) else 80) = po at *
  generalize uptS 58 a = h at *
  generalize uptS 63 e = p at *
  generalize bhS 63 e = q at *
  generalize hasS 63 e = hq at *
  have H3 := hideB2 (fun W => turnedHost_any h 44 46 W (by omega))
  have z6 := turnB_size_eq h 44 46
  generalize turnB h 44 46 = th at *
  have H4 := hideB2 (fun W (h : Tab10 W) => UrlOk_any th p q po hq W h (by omega) (by omega) (by omega))
  have H5 := hideB2 (fun W (h : Tab10 W) => Surt_any th p q po hq W h (by omega) (by omega) (by omega))
  change Hid (∀ W, Tab10 W → Calls _ _ _ W fun e w' => e = .returned (.bool (urQ ⟨th, p, q, po, hq⟩)) ∧ Below W.heap.size W w') at H4
  change Hid (∀ W, Tab10 W → Calls _ _ _ W fun e w' => e = .returned (.string (suU ⟨th, p, q, po, hq⟩)) ∧ Below W.heap.size W w') at H5
  rw [← HK0] at H4 H5
  have HK := hideB2 HK0
  clear HK0
  have HSE := hideB2 (show ((suU K).toList == s.toList) = eqB (suU K) s from rfl)
  generalize urQ K = okv at *
  generalize eqB (suU K) s = b at *
  generalize suU K = sk at *
  have hse := HSE.out
  clear HSE
  go_enter Tryz.func5, Tryz.ntmps5
  go_wp2_with fail
  refine (H1.out _).mono ?_
  rintro e1 w1 ⟨rfl, hb1⟩
  go_wp2_with fail
  refine (H2.out _).mono ?_
  rintro e2 w2 ⟨rfl, hb2⟩
  have A2 := (A0.out.later hb1).later hb2
  have hb2' := below_then (below_then HB.out hb1) hb2
  have hlt := A2.lt
  have B2 := Blk.new w2 #[.string h, .int .i64 po, .string p, .string q, .bool hq] 23
  have A2' := A2.alloc (.cells #[.string h, .int .i64 po, .string p, .string q, .bool hq] 23)
  have hb2'' := below_then hb2' (below_a1 w2 (.cells #[.string h, .int .i64 po, .string p, .string q, .bool hq] 23))
  clear hb1 hb2 HB A0 H1 H2 A2
  go_wp2_with fail
  refine (H3.out _).mono ?_
  rintro e3 w3 ⟨rfl, hb3⟩
  have B3 := hideB2 (B2.later hb3)
  have A3 := hideB2 (A2'.later hb3)
  have HB3 := hideB2 (below_then hb2'' hb3)
  have hne : w2.heap.size ≠ w.heap.size := by omega
  have hge : w.heap.size ≤ w2.heap.size := by omega
  clear hb2' hb2'' hb3 B2 A2' H3 hlt
  generalize w2.heap.size = G at *
  obtain ⟨p0, p1, p2, p3, p4⟩ := B3.out.u5
  obtain ⟨f0, f1, f2, f3, f4⟩ := B3.out.f5U
  go_wp2_with fail
  refine (H4.out _ (tab_later HT.out (HB3.out.setCell (p := ⟨G, 0, none⟩) hge _))).mono ?_
  rintro e4 w4 ⟨rfl, hb4⟩
  have B4 : Hid (Blk w4 G #[.string th, .int .i64 po, .string p, .string q, .bool hq] 23) := hideB2 ((B3.out.set 0 _).later hb4)
  have A4 : Hid (Blk w4 w.heap.size #[.string ⟨#[]⟩, .int .i64 0, .string ⟨#[]⟩, .string ⟨#[]⟩, .bool false] 23) := hideB2 ((A3.out.other hne 0 _).later hb4)
  have HB4 := hideB2 (below_then (HB3.out.setCell (p := ⟨G, 0, none⟩) hge _) hb4)
  clear p0 p1 p2 p3 p4 f0 f1 f2 f3 f4 hb4 B3 A3 HB3 H4
  cases okv
  · have HUO := hideB2 (N1.out rfl)
    obtain ⟨a0, a1, a2, a3, a4⟩ := A4.out.u5
    obtain ⟨g0, g1, g2, g3, g4⟩ := A4.out.f5U
    clear B4
    have HF := hideB2 (show Ending.returned (.tuple #[.agg #[.string ⟨#[]⟩, .int .i64 0, .string ⟨#[]⟩, .string ⟨#[]⟩, .bool false], .bool false]) = .returned (.tuple #[valU U, .bool O]) by obtain ⟨h1, h2⟩ := HUO.out; rw [h1, h2]; rfl)
    go_wp2
    refine bodyPost_ret (results_cellT rfl _ _ _ rfl (A4.out.set5U _ _ _ _ _) Tryz.underlying23 Tryz.infoUrl) rfl ⟨?_, ?_⟩
    · exact HF.out
    exact below_set5 HB4.out (Nat.le_refl _) _ _ _ _ _
  · obtain ⟨p0, p1, p2, p3, p4⟩ := B4.out.u5
    go_wp2_with fail
    refine (H5.out _ (tab_later HT.out HB4.out)).mono ?_
    rintro e5 w5 ⟨rfl, hb5⟩
    have A5 := hideB2 (A4.out.later hb5)
    have B5 := hideB2 (B4.out.later hb5)
    have HB5 := hideB2 (below_then HB4.out hb5)
    clear p0 p1 p2 p3 p4 hb5 A4 B4 HB4 H5
    obtain ⟨p0, p1, p2, p3, p4⟩ := B5.out.u5
    obtain ⟨a0, a1, a2, a3, a4⟩ := A5.out.u5
    obtain ⟨g0, g1, g2, g3, g4⟩ := A5.out.f5U
    clear B5
    cases b
    · have HUO := hideB2 (N2.out rfl)
      have HF := hideB2 (show Ending.returned (.tuple #[.agg #[.string ⟨#[]⟩, .int .i64 0, .string ⟨#[]⟩, .string ⟨#[]⟩, .bool false], .bool false]) = .returned (.tuple #[valU U, .bool O]) by obtain ⟨h1, h2⟩ := HUO.out; rw [h1, h2]; rfl)
      go_wp2
      refine bodyPost_ret (results_cellT rfl _ _ _ rfl (A5.out.set5U _ _ _ _ _) Tryz.underlying23 Tryz.infoUrl) rfl ⟨?_, ?_⟩
      · exact HF.out
      exact below_set5 HB5.out (Nat.le_refl _) _ _ _ _ _
    · have HUO := hideB2 (show O = true ∧ U = ⟨th, p, q, po, hq⟩ by rw [← HK.out]; exact N3.out (by simp) (by simp))
      have HF := hideB2 (show Ending.returned (.tuple #[.agg #[.string th, .int .i64 po, .string p, .string q, .bool hq], .bool true]) = .returned (.tuple #[valU U, .bool O]) by obtain ⟨h1, h2⟩ := HUO.out; rw [h1, h2]; rfl)
      go_wp2
      refine bodyPost_ret (results_cellT rfl _ _ _ rfl (A5.out.set5U _ _ _ _ _) Tryz.underlying23 Tryz.infoUrl) rfl ⟨?_, ?_⟩
      · exact HF.out
      exact below_set5 HB5.out (Nat.le_refl _) _ _ _ _ _
end Go.Proofs.YtmhohponikolfabGreatDoor
