/-
  Chapter 7: a text cut, and a path in its one form; the specification's side. · Contracts of the library's functions at this program, laid off the kit's shelf in plain words. · A text cut at its first byte c; up to a byte; both sides. · Contracts of the library's functions at this program, laid off the kit's shelf in plain words. · Chapter 7: hosts; the walks of both sides; a text up to a byte. · Chapter 7: an address's text, and is it one; the program's side. · Chapter 7: hosts; the specification's side.
-/
import Derived.Test.YthdgeepedofleaaGreatDoorJ5
import Derived.Shelf.Strings.Search2
import Derived.Test.YthdgeepedofleaaGreatDoorProg
import Derived.Test.YthdgeepedofleaaGreatDoorJ4
import Derived.Test.YthdgeepedofleaaGreatDoorJ0
import Derived.Deep.DeepCutAuto
import Derived.Shelf.Slices.Turned
import Derived.Shelf.Slices.Cells
import Derived.Shelf.Strings.Search3
import Derived.Test.YthdgeepedofleaaGreatDoorJ1
import Derived.Laws.RangeAny
import Derived.Deep.LoopGhost
import Derived.Test.YthdgeepedofleaaGreatDoorJ3
import Derived.Lib.QuietBelow
namespace Go.Proofs.YthdgeepedofleaaGreatDoor
set_option linter.unusedVariables false
set_option linter.unusedSimpArgs false
open Go.RowKit
set_option maxRecDepth 100000 in
set_option maxHeartbeats 4000000 in
theorem l7split_any (s : ByteArray) (c : UInt8) (w : World) (hs : s.size ≤ 1048576) :
    Calls Tryz.prog 167 #[.string s, .int .u8 (c.toNat : Int)] w fun e w' => ∃ v, e = .returned v ∧ BufS w w' v (splS c s) := by
  have hsl := (splS_le c s).1
  generalize hR : splS c s = R at *
  have HR := hideB2 hR
  clear hR
  go_enter Tryz.func167, Tryz.ntmps167
  go_wp2
  go_loopw [5, 6, 7] (fun ov fv i wr => ∃ (k f : Nat) (o : List ByteArray), i = .int .i64 k ∧ fv = .int .i64 f ∧ BufS w wr ov o ∧ o.length ≤ s.size + 1 ∧ ((k ≤ s.size ∧ f ≤ k ∧ (∀ j, f ≤ j → j < k → at8 s j ≠ c) ∧ o ++ splS c (s.extract f s.size) = R) ∨ (k = s.size + 1 ∧ o = R))) (fun _ _ i _ => s.size + 1 - (intOf i).toNat)
  case atStart => exact ⟨0, 0, [], rfl, rfl, BufS.start w, by simp, .inl ⟨Nat.zero_le _, Nat.le_refl _, fun j _ hj => by omega, by rw [List.nil_append, ← HR.out]; congr 1; apply bytes_ext; rw [Lib.extract_data, List.drop_zero]; exact List.take_of_length_le (by rw [len_data]; omega)⟩⟩
  case round =>
    obtain ⟨k, f, o, rfl, rfl, hbuf, hol, hcase⟩ := hrel
    have HOL := hideB2 hol
    clear hol
    rcases hcase with ⟨hk, hf, hno, ho⟩ | ⟨rfl, rfl⟩
    · have HNO := hideB2 hno
      have HO := hideB2 ho
      clear hno ho
      have c1 : (0 : Int) ≤ (f : Int) := by omega
      have c2 : (f : Int) ≤ (k : Int) := by omega
      have c3 : (k : Int) ≤ (s.size : Int) := by omega
      have hol2 : o.length ≤ 1073741824 := by have := HOL.out; omega
      by_cases hlt : k < s.size
      · have hkeq : ((k : Int) == (s.size : Int)) = false := by rw [beq_eq_false_iff_ne]; omega
        have hat : s[k] = at8 s k := at8_eq s k hlt
        have hcc : ((s[k].toNat : Int) == (c.toNat : Int)) = (at8 s k == c) := by rw [hat]; exact u8_beq _ _
        clear hat
        cases hq : (at8 s k == c)
        · rw [hq] at hcc
          have HQ := hideB2 (show at8 s k ≠ c from beq_eq_false_iff_ne.1 hq)
          have HBF := hideB2 hbuf
          clear hq hbuf
          go_wp2
          go_roundw
          case rel => exact ⟨k + 1, f, o, by go_num, rfl, HBF.out, HOL.out, .inl ⟨by omega, by omega, fun j h1 h2 => by
            by_cases e : j = k
            · subst e; exact HQ.out
            · exact HNO.out j h1 (by omega), HO.out⟩⟩
          case measure => simp [intOf]; omega
        · rw [hq] at hcc
          have hstep := splS_step (c := c) hf hlt (beq_iff_eq.1 hq) HNO.out
          have HN := hideB2 (show (o ++ [s.extract f k]) ++ splS c (s.extract (k + 1) s.size) = R by rw [List.append_assoc, List.singleton_append, ← hstep]; exact HO.out)
          have HL := hideB2 (show (o ++ [s.extract f k]).length ≤ s.size + 1 by
            have h1 := congrArg List.length HN.out
            rw [List.length_append] at h1
            omega)
          clear hq hstep
          go_wp2_with (at_builtin; refine wp_sapp rfl (.tmp 25) (.tmp 30) rfl _ _ rfl hbuf (s.extract f k) rfl hol2 ?_; intro v2 W2 hbuf2)
          go_roundw
          case rel => exact ⟨k + 1, k + 1, _, by go_num, by go_num, hbuf2, HL.out, .inl ⟨by omega, Nat.le_refl _, fun j h1 h2 => by omega, HN.out⟩⟩
          case measure => simp [intOf]; omega
      · obtain rfl : k = s.size := by omega
        have hkeq : ((s.size : Int) == (s.size : Int)) = true := by simp
        have hend := splS_end (c := c) HNO.out
        have HN := hideB2 (show o ++ [s.extract f s.size] = R by rw [← hend]; exact HO.out)
        have HL := hideB2 (show (o ++ [s.extract f s.size]).length ≤ s.size + 1 by rw [HN.out]; omega)
        clear hend
        go_wp2_with (at_builtin; refine wp_sapp rfl (.tmp 25) (.tmp 30) rfl _ _ rfl hbuf (s.extract f s.size) rfl hol2 ?_; intro v2 W2 hbuf2)
        go_roundw
        case rel => exact ⟨s.size + 1, s.size + 1, _, by go_num, by go_num, hbuf2, HL.out, .inr ⟨rfl, HN.out⟩⟩
        case measure => simp [intOf]
    · have c3 : ¬ ((s.size : Int) + 1 ≤ (s.size : Int)) := by omega
      have HBF := hideB2 hbuf
      clear hbuf
      go_wp2
      go_ret
      exact ⟨_, rfl, HBF.out⟩
/-- What is kept when k pieces have been gone through, the end looked at in the last one's round. -/
def midL (L : List ByteArray) (k : Nat) : List ByteArray := if k = L.length then keptL L else keepL (L.take k)
theorem midL_zero {L : List ByteArray} (h : 0 < L.length) : midL L 0 = [] := by unfold midL; rw [if_neg (show ¬ 0 = L.length by omega)]; rfl
theorem midL_next {L : List ByteArray} {k : Nat} (h : k + 1 < L.length) : midL L (k + 1) = keepS (midL L k) (L.getD k ⟨#[]⟩) := by
  unfold midL
  rw [if_neg (show ¬ k + 1 = L.length by omega), if_neg (show ¬ k = L.length by omega), keepL_take (by omega), List.getD, List.getElem?_eq_getElem (by omega)]
  rfl
theorem midL_last {L : List ByteArray} {k : Nat} (h : k + 1 = L.length) : midL L (k + 1) = if dotQ (L.getD k ⟨#[]⟩) = true then keepS (midL L k) (L.getD k ⟨#[]⟩) ++ [⟨#[]⟩] else keepS (midL L k) (L.getD k ⟨#[]⟩) := by
  have hk : k < L.length := by omega
  have e : L.take (k + 1) = L := List.take_of_length_le (by omega)
  have h1 := keepL_take hk
  have h2 := lastDot_take hk
  rw [e] at h1 h2
  unfold midL
  rw [if_pos h, if_neg (show ¬ k = L.length by omega), List.getD, List.getElem?_eq_getElem hk]
  unfold keptL
  rw [h1, h2]
  rfl
theorem midL_len (L : List ByteArray) (k : Nat) : (midL L k).length ≤ L.length + 1 := by
  unfold midL
  split
  · exact (keptL_le L).1
  · have h := (keepL_le (L.take k)).1
    rw [List.length_take] at h; omega
theorem evB_slash {s : ByteArray} (h : 0 < s.size) (h47 : at8 s 0 = 47) : (evB s).extract 1 (evB s).size = evB (s.extract 1 s.size) ∧ 1 ≤ (evB s).size := by
  have e := drop_at8 (i := 0) h
  rw [List.drop_zero, h47] at e
  have e1 : evL s.data.toList = 47 :: evL (s.data.toList.drop 1) := by
    conv => lhs; rw [e]
    refine evL_miss ?_
    rintro ⟨hh, _⟩
    cases hh
  have e2 : (s.extract 1 s.size).data.toList = s.data.toList.drop 1 := by
    rw [Lib.extract_data]
    exact List.take_of_length_le (by rw [List.length_drop, len_data]; omega)
  have e3 : (evB s).data.toList = 47 :: evL (s.data.toList.drop 1) := e1
  have e4 : (evB s).size = (evL (s.data.toList.drop 1)).length + 1 := by
    rw [← len_data, e3, List.length_cons]
  refine ⟨?_, by omega⟩
  apply bytes_ext
  rw [Lib.extract_data, e3, List.drop_succ_cons, List.drop_zero, e4]
  show _ = evL (s.extract 1 s.size).data.toList
  rw [e2]
  exact List.take_of_length_le (by omega)
def tailB (l : List ByteArray) : ByteArray := ⟨(tailS 47 l).toArray⟩
theorem tailB_next (l : List ByteArray) (k : Nat) (h : k < l.length) : tailB (l.take k) ++ (⟨#[47]⟩ : ByteArray) ++ l.getD k ⟨#[]⟩ = tailB (l.take (k + 1)) := by
  apply bytes_ext
  rw [List.take_succ_eq_append_getElem h, List.getD, List.getElem?_eq_getElem h]
  unfold tailB
  rw [tailS_snoc]
  simp [Go.Joins.data_append]
theorem tailS_take (c : UInt8) (l : List ByteArray) (k : Nat) : (tailS c (l.take k)).length ≤ (tailS c l).length := by
  conv => rhs; rw [← List.take_append_drop k l]
  unfold tailS Lib.joinTail
  rw [List.map_append, List.map_append, List.flatten_append, List.length_append]
  omega
theorem tailB_size (l : List ByteArray) (k : Nat) : (tailB (l.take k)).size ≤ l.length + sumS l := by
  have h := tailS_take 47 l k
  have h2 := tailS_len 47 l
  show (tailS 47 (l.take k)).toArray.size ≤ _
  rw [List.size_toArray]
  omega
theorem clnL_tail (l : List ByteArray) : clnL l = if (tailB l).size = 0 then ⟨#[47]⟩ else tailB l := by
  unfold clnL
  have hz : (tailB l).size = l.length + sumS l := by
    show (tailS 47 l).toArray.size = _
    rw [← tailS_len 47 l]; simp
  cases l with
  | nil => rfl
  | cons x r => rw [if_neg (by simp), if_neg (by rw [hz]; simp)]; rfl
theorem dd_d1 : eqB dd d1 = false := by
  unfold eqB; rw [ByteArray.toList_eq, ByteArray.toList_eq]; rfl
theorem nof_no {s : ByteArray} {k : Nat} (hk : k < s.size) (h : at8 s k = 35 ∨ at8 s k = 63) : pthQ s = false :=
  pthQ_no3 (allB_no hk (by rcases h with h | h <;> rw [h] <;> rfl))
theorem vis_size {s : ByteArray} (h : (decide (0 < (s.size : Int)) && allB vis8 s) = true) (hz : s.size ≤ 200) : targQ s = true := by
  rw [Bool.and_eq_true, decide_eq_true_eq] at h
  exact targQ_iff.2 ⟨by omega, hz, h.2⟩
theorem vis_no {s : ByteArray} (h : (decide (0 < (s.size : Int)) && allB vis8 s) = false) : targQ s = false := by
  cases ht : targQ s with
  | false => rfl
  | true =>
    obtain ⟨h1, _, h3⟩ := targQ_iff.1 ht
    rw [decide_eq_true (by omega), h3] at h
    cases h
set_option maxRecDepth 100000 in
set_option maxHeartbeats 8000000 in
theorem sCleanPath_any (s : ByteArray) (w : World) (hs : s.size ≤ maxLen) :
    Calls Tryz.prog 127 #[.string s] w fun e w' => e = .returned (.string (clnB s)) ∧ Below w.heap.size w w' := by
  have hs' := hs
  unfold maxLen at hs'
  by_cases h0 : s.size = 0
  · have hF := clnB_no (s := s) (pthQ_no2 (by cases ht : targQ s with | false => rfl | true => have := (targQ_iff.1 ht).1; omega))
    rw [hF]
    have e0 : ((s.size : Int) == 0) = true := by rw [beq_iff_eq]; omega
    clear hF
    go_enter Tryz.func127, Tryz.ntmps127
    go_wp2
    go_ret
    exact ⟨rfl, Below.refl _ _⟩
  · have e0 : ((s.size : Int) == 0) = false := by rw [beq_eq_false_iff_ne]; omega
    by_cases h200 : s.size ≤ 200
    · have e1 : ¬ ((200 : Int) < (s.size : Int)) := by omega
      have hat : s[0] = at8 s 0 := at8_eq s 0 (by omega)
      by_cases h47 : at8 s 0 = 47
      · have e2 : ((s[0].toNat : Int) != 47) = false := by rw [hat, h47]; rfl
        have HV := hideB2 (fun W => l6visible_any s W hs)
        cases hv : (decide (0 < (s.size : Int)) && allB vis8 s)
        · rw [hv] at HV
          rw [clnB_no (pthQ_no2 (vis_no hv))]
          clear hv hat h47
          go_enter Tryz.func127, Tryz.ntmps127
          go_wp2_with (go_at_call 123; refine (HV.out _).mono ?_; rintro e w' ⟨rfl, rfl⟩)
          go_ret
          exact ⟨rfl, Below.refl _ _⟩
        · rw [hv] at HV
          have HT := hideB2 (vis_size hv h200)
          have HS1 := hideB2 (show slash1 s = true by unfold slash1; rw [decide_eq_true (by omega), beq_iff_eq.2 h47]; rfl)
          obtain ⟨g1, g2⟩ := evB_slash (s := s) (by omega) h47
          have HEV := hideB2 (fun W => l7percent_any s W (by omega))
          have hez := evB_size s
          clear hv hat h47
          generalize hR : clnB s = R
          have HR := hideB2 hR
          clear hR
          go_enter Tryz.func127, Tryz.ntmps127
          go_wp2_with (go_at_call 123; refine (HV.out _).mono ?_; rintro e w' ⟨rfl, rfl⟩)
          go_loop [3] (fun i => ∃ k : Nat, k ≤ s.size ∧ i = .int .i64 k ∧ ∀ j, j < k → nof8 (at8 s j) = true) (fun i => s.size - (intOf i).toNat)
          case atStart => exact ⟨0, Nat.zero_le _, rfl, fun j hj => by omega⟩
          case round =>
            obtain ⟨k, hk, rfl, hall⟩ := hrel
            have Hall := hideB2 hall
            clear hall
            by_cases hlt : k < s.size
            · have hat : s[k] = at8 s k := at8_eq s k hlt
              have q35 : ((s[k].toNat : Int) == 35) = (at8 s k == 35) := by rw [hat]; exact u8_beq _ 35
              have q63 : ((s[k].toNat : Int) == 63) = (at8 s k == 63) := by rw [hat]; exact u8_beq _ 63
              clear hat
              cases h35 : (at8 s k == 35)
              · rw [h35] at q35
                cases h63 : (at8 s k == 63)
                · rw [h63] at q63
                  have HN := hideB2 (show nof8 (at8 s k) = true by unfold nof8; rw [bne, bne, h35, h63]; rfl)
                  clear h35 h63
                  go_wp2
                  go_round
                  case rel => exact ⟨k + 1, by omega, by go_num, all_succ Hall.out HN.out⟩
                  case measure => simp [intOf]; omega
                · rw [h63] at q63
                  have HF := hideB2 (show R = ⟨#[]⟩ by rw [← HR.out]; exact clnB_no (nof_no hlt (.inr (beq_iff_eq.1 h63))))
                  clear h35 h63
                  go_wp2
                  go_ret
                  exact ⟨ret_str HF.out, Below.refl _ _⟩
              · rw [h35] at q35
                have HF := hideB2 (show R = ⟨#[]⟩ by rw [← HR.out]; exact clnB_no (nof_no hlt (.inl (beq_iff_eq.1 h35))))
                clear h35
                go_wp2
                go_ret
                exact ⟨ret_str HF.out, Below.refl _ _⟩
            · have hn := allB_yes (p := nof8) (s := s) (fun j hj => Hall.out j (by omega))
              have hcl := clnB_yes (pthQ_yes HS1.out HT.out hn)
              rw [← g1] at hcl
              have HSP := hideB2 (fun W => l7split_any ((evB s).extract 1 (evB s).size) 47 W (by rw [ByteArray.size_extract]; omega))
              have hls := splS_le 47 ((evB s).extract 1 (evB s).size)
              have hne := splS_ne 47 ((evB s).extract 1 (evB s).size)
              have hxz : ((evB s).extract 1 (evB s).size).size ≤ 200 := by rw [ByteArray.size_extract]; omega
              have HCL := hideB2 (HR.out.symm.trans hcl)
              change Hid (∀ W, Calls _ _ #[_, .int .u8 47] W _) at HSP
              clear hn hcl HR HS1 HT Hall g1
              generalize hyy : evB s = y at *
              have c1 : (1 : Int) ≤ (y.size : Int) := by omega
              generalize hxx : y.extract 1 y.size = x at *
              generalize splS 47 x = L at *
              have hnL : 0 < L.length := List.length_pos_iff.2 hne
              clear hne
              go_wp2_with fail
              refine (HEV.out _).mono ?_
              rintro e w1 ⟨rfl, hb1⟩
              go_wp2_with fail
              refine (HSP.out _).mono ?_
              rintro e w2 ⟨v2, rfl, hbuf2⟩
              have hB2 := below_then hb1 hbuf2.below
              have hcells := fun (h : 0 < L.length) => hbuf2.cells h
              obtain ⟨a, c0, rfl⟩ := hbuf2.form
              have HC := hideB2 (show ∀ j, j < L.length → ∃ g, a = some ⟨g, 0, none⟩ ∧ g < w2.heap.size ∧ w2.cell? ⟨g, j, none⟩ = some (.string (L.getD j ⟨#[]⟩)) from fun j hj => by
                obtain ⟨g, cap, e, _, hlt, hc⟩ := hcells (by omega)
                injection e with e1
                exact ⟨g, e1, hlt, hc j hj⟩)
              have HB2 := hideB2 hB2
              have HKL := hideB2 (midL_len L)
              have HKE := hideB2 (show midL L L.length = keptL L by unfold midL; rw [if_pos rfl])
              have HKZ := hideB2 (keptL_le L)
              have HM0 := hideB2 (midL_zero hnL)
              clear hcells hbuf2 hB2 hb1
              generalize hn : L.length = n at *
              have HN := hideB2 hn
              have hn200 : n ≤ 201 := by omega
              clear hn
              go_wp2
              go_loopw [5, 6] (fun kv i wr => ∃ k : Nat, k ≤ n ∧ i = .int .i64 k ∧ BufS w2 wr kv (midL L k)) (fun _ i _ => n - (intOf i).toNat)
              case atStart => exact ⟨0, Nat.zero_le _, rfl, by rw [HM0.out]; exact BufS.start w2⟩
              case round =>
                obtain ⟨k, hk, rfl, hbuf⟩ := hrel
                have hlen := HKL.out k
                by_cases hlt : k < n
                · obtain ⟨g, rfl, hgl, hcell⟩ := HC.out k hlt
                  have p0 : wr.cell? ⟨g, k, none⟩ = some (.string (L.getD k ⟨#[]⟩)) := (hbuf.below.cell (p := ⟨g, k, none⟩) hgl).trans hcell
                  have HX1 := hideB2 (fun (h : k + 1 ≠ n) => midL_next (L := L) (k := k) (by rw [HN.out]; omega))
                  have HX2 := hideB2 (fun (h : k + 1 = n) => midL_last (L := L) (k := k) (by rw [HN.out]; omega))
                  clear hcell
                  generalize L.getD k ⟨#[]⟩ = x at *
                  generalize midL L k = K at *
                  have e1 : IntKind.i64.wrap ((k : Int) + 1) = (k : Int) + 1 := by rw [IntKind.wrap_i64]; omega
                  cases hdd : eqB x dd
                  · cases hd1 : eqB x d1
                    · obtain ⟨k1, k2⟩ := keepS_no (k := K) hdd hd1
                      have HT := hideB2 (show midL L (k + 1) = K ++ [x] by
                        by_cases hlast : k + 1 = n
                        · rw [HX2.out hlast, if_neg (by rw [k2]; simp), k1]
                        · rw [HX1.out hlast, k1])
                      rw [← eqB_dd] at hdd
                      rw [← eqB_d1] at hd1
                      clear k1 k2 HX1 HX2
                      go_wp2_with (at_builtin; refine wp_sapp rfl (.tmp 83) (.tmp 88) rfl _ _ rfl hbuf x rfl (by omega) ?_; intro v5 W5 hbuf5)
                      go_roundw
                      case rel => exact ⟨k + 1, by omega, by go_num, by rw [HT.out]; exact hbuf5⟩
                      case measure => simp [intOf]; omega
                    · obtain ⟨k1, k2⟩ := keepS_d1 (k := K) hdd hd1
                      have HK2 := hideB2 k1
                      have HD2 := hideB2 k2
                      have HBF := hideB2 hbuf
                      rw [← eqB_dd] at hdd
                      rw [← eqB_d1] at hd1
                      clear k1 k2 hbuf
                      by_cases hlast : k + 1 = n
                      · have hle : ((k : Int) + 1 == (n : Int)) = true := by rw [beq_iff_eq]; omega
                        have HT := hideB2 ((HX2.out hlast).trans (if_pos HD2.out))
                        rw [HK2.out] at HT
                        have hbq := HBF.out
                        clear HX1 HX2
                        go_wp2_with (at_builtin; refine wp_sapp rfl (.tmp 95) (.tmp 96) rfl _ _ rfl hbq ⟨#[]⟩ rfl (by omega) ?_; intro v5 W5 hbuf5)
                        go_roundw
                        case rel => exact ⟨k + 1, by omega, by go_num, by rw [HT.out]; exact hbuf5⟩
                        case measure => simp [intOf]; omega
                      · have hle : ((k : Int) + 1 == (n : Int)) = false := by rw [beq_eq_false_iff_ne]; omega
                        have HT := hideB2 (HX1.out hlast)
                        rw [HK2.out] at HT
                        clear HX1 HX2
                        go_wp2
                        go_roundw
                        case rel => exact ⟨k + 1, by omega, by go_num, by rw [HT.out]; exact HBF.out⟩
                        case measure => simp [intOf]; omega
                  · obtain ⟨k1, k2⟩ := keepS_dd (k := K) hdd
                    have hd1 : eqB x d1 = false := by
                      have := eqB_iff.1 hdd
                      subst this
                      exact dd_d1
                    have HK2 := hideB2 k1
                    have HD2 := hideB2 k2
                    rw [← eqB_dd] at hdd
                    rw [← eqB_d1] at hd1
                    clear k1 k2
                    by_cases hq1 : 1 ≤ K.length
                    · rcases hbuf.own.2 with ⟨rfl, h00⟩ | ⟨g1, cap1, _, rfl, _, _, hcap, hmx, _⟩
                      · omega
                      · have HBF := hideB2 (hbuf.shrink (K.length - 1) (by omega))
                        have hq2 : (K.take (K.length - 1)).length ≤ 202 := by rw [List.length_take]; omega
                        clear hbuf
                        generalize hK2 : K.take (K.length - 1) = K2 at *
                        generalize K.length = q1 at *
                        unfold maxLen at hmx
                        have e2 : IntKind.i64.wrap ((q1 : Int) - 1) = ((q1 - 1 : Nat) : Int) := by rw [IntKind.wrap_i64]; omega
                        have e3 : ((q1 - 1 : Nat) : Int) ≤ (cap1 : Int) := by omega
                        have e4 : (0 : Int) < (q1 : Int) := by omega
                        generalize q1 - 1 = m at *
                        by_cases hlast : k + 1 = n
                        · have hle : ((k : Int) + 1 == (n : Int)) = true := by rw [beq_iff_eq]; omega
                          have HT := hideB2 ((HX2.out hlast).trans (if_pos HD2.out))
                          rw [HK2.out] at HT
                          have hbq := HBF.out
                          clear HX1 HX2
                          go_wp2_with (at_builtin; refine wp_sapp rfl (.tmp 95) (.tmp 96) rfl _ _ rfl hbq ⟨#[]⟩ rfl (by omega) ?_; intro v5 W5 hbuf5)
                          go_roundw
                          case rel => exact ⟨k + 1, by omega, by go_num, by rw [HT.out]; exact hbuf5⟩
                          case measure => simp [intOf]; omega
                        · have hle : ((k : Int) + 1 == (n : Int)) = false := by rw [beq_eq_false_iff_ne]; omega
                          have HT := hideB2 (HX1.out hlast)
                          rw [HK2.out] at HT
                          clear HX1 HX2
                          go_wp2
                          go_roundw
                          case rel => exact ⟨k + 1, by omega, by go_num, by rw [HT.out]; exact HBF.out⟩
                          case measure => simp [intOf]; omega
                    · have hK0 : K = [] := List.eq_nil_of_length_eq_zero (by omega)
                      subst hK0
                      obtain ⟨a1, c1', rfl⟩ := hbuf.form
                      have HBF := hideB2 hbuf
                      clear hbuf
                      by_cases hlast : k + 1 = n
                      · have hle : ((k : Int) + 1 == (n : Int)) = true := by rw [beq_iff_eq]; omega
                        have HT := hideB2 ((HX2.out hlast).trans (if_pos HD2.out))
                        rw [HK2.out] at HT
                        have hbq := HBF.out
                        clear HX1 HX2
                        go_wp2_with (at_builtin; refine wp_sapp rfl (.tmp 95) (.tmp 96) rfl _ _ rfl hbq ⟨#[]⟩ rfl (by omega) ?_; intro v5 W5 hbuf5)
                        go_roundw
                        case rel => exact ⟨k + 1, by omega, by go_num, by rw [HT.out]; exact hbuf5⟩
                        case measure => simp [intOf]; omega
                      · have hle : ((k : Int) + 1 == (n : Int)) = false := by rw [beq_eq_false_iff_ne]; omega
                        have HT := hideB2 (HX1.out hlast)
                        rw [HK2.out] at HT
                        clear HX1 HX2
                        go_wp2
                        go_roundw
                        case rel => exact ⟨k + 1, by omega, by go_num, by rw [HT.out]; exact HBF.out⟩
                        case measure => simp [intOf]; omega
                · obtain rfl : k = n := by omega
                  rw [HKE.out] at hbuf hlen
                  have hkz := HKZ.out
                  generalize hKK : keptL L = K at *
                  have hkc := fun (h : 0 < K.length) => hbuf.cells h
                  obtain ⟨a1, c1', rfl⟩ := hbuf.form
                  have HCK := hideB2 (show ∀ j, j < K.length → ∃ g, a1 = some ⟨g, 0, none⟩ ∧ wr.cell? ⟨g, j, none⟩ = some (.string (K.getD j ⟨#[]⟩)) from fun j hj => by
                    obtain ⟨g, cap, e, _, _, hc⟩ := hkc (by omega)
                    injection e with e1
                    exact ⟨g, e1, hc j hj⟩)
                  have HB := hideB2 (below_then HB2.out hbuf.below)
                  have HCL2 := hideB2 (HCL.out.trans (clnL_tail K))
                  clear hkc hbuf HKL HKE HKZ HM0 HC
                  generalize hq : K.length = q at *
                  have HQ := hideB2 hq
                  clear hq
                  have hsum : sumS K ≤ 200 := by omega
                  go_wp2
                  go_loop [8, 9] (fun sv i => ∃ k : Nat, k ≤ q ∧ i = .int .i64 k ∧ sv = .string (tailB (K.take k))) (fun _ i => q - (intOf i).toNat)
                  case atStart => exact ⟨0, Nat.zero_le _, rfl, rfl⟩
                  case round =>
                    obtain ⟨k2, hk2, rfl, rfl⟩ := hrel
                    by_cases hlt2 : k2 < q
                    · obtain ⟨g, rfl, p0⟩ := HCK.out k2 hlt2
                      have HNX := hideB2 (tailB_next K k2 (by rw [HQ.out]; exact hlt2))
                      have hz1 := tailB_size K k2
                      have hz2 : (K.getD k2 ⟨#[]⟩).size ≤ sumS K := by
                        have h1 : k2 < K.length := by rw [HQ.out]; exact hlt2
                        rw [List.getD, List.getElem?_eq_getElem h1]
                        exact sumS_mem (List.getElem_mem h1)
                      rw [HQ.out] at hz1
                      generalize K.getD k2 ⟨#[]⟩ = x at *
                      generalize tailB (K.take k2) = y at *
                      go_wp2
                      go_round
                      case rel => exact ⟨k2 + 1, by omega, by go_num, by rw [← HNX.out]⟩
                      case measure => simp [intOf]; omega
                    · obtain rfl : k2 = q := by omega
                      have HE := hideB2 (show K.take k2 = K from List.take_of_length_le (by rw [HQ.out]; exact Nat.le_refl _))
                      rw [HE.out]
                      clear HE
                      by_cases hz : (tailB K).size = 0
                      · have hne := empty_of hz
                        have HF := hideB2 (HCL2.out.trans (if_pos hz))
                        clear hz
                        generalize tailB K = y at *
                        go_wp2
                        go_ret
                        exact ⟨ret_str HF.out, HB.out⟩
                      · have hne := nonempty_of hz
                        have HF := hideB2 (HCL2.out.trans (if_neg hz))
                        clear hz
                        generalize tailB K = y at *
                        go_wp2
                        go_ret
                        exact ⟨ret_str HF.out, HB.out⟩
      · have e2 : ((s[0].toNat : Int) != 47) = true := by
          rw [hat, bne_iff_ne]
          intro hh
          exact h47 (UInt8.toNat_inj.1 (by have : (at8 s 0).toNat = 47 := by omega
                                           rw [this]; rfl))
        rw [clnB_no (pthQ_no1 (by unfold slash1; rw [beq_eq_false_iff_ne.2 h47, Bool.and_false]))]
        clear hat h47
        go_enter Tryz.func127, Tryz.ntmps127
        go_wp2
        go_ret
        exact ⟨rfl, Below.refl _ _⟩
    · have e1 : (200 : Int) < (s.size : Int) := by omega
      rw [clnB_no (pthQ_no2 (by cases ht : targQ s with | false => rfl | true => have := (targQ_iff.1 ht).2.1; omega))]
      go_enter Tryz.func127, Tryz.ntmps127
      go_wp2
      go_ret
      exact ⟨rfl, Below.refl _ _⟩
end Go.Proofs.YthdgeepedofleaaGreatDoor
namespace Go.Proofs
open Go.Shelf
def Tryz.lays219_ren : Go.Shelf.Ren := ⟨fun | 219 => 94 | 217 => 114 | 225 => 115 | 224 => 116 | 267 => 117 | 266 => 155 | 314 => 156 | n => n, fun | 9 => 9 | 3 => 3 | 4 => 4 | 5 => 5 | 46 => 144 | 146 => 180 | 51 => 165 | n => n, fun | 1 => 0 | n => n⟩
theorem Tryz.lays219 : Go.Proofs.Lays.n219 Tryz.prog Tryz.lays219_ren := {
  mixed := by kernel_rfl
  f217 := Tryz.func114.trans (congrArg some (by kernel_rfl))
  f219 := Tryz.func94.trans (congrArg some (by kernel_rfl))
  f224 := Tryz.func116.trans (congrArg some (by kernel_rfl))
  f225 := Tryz.func115.trans (congrArg some (by kernel_rfl))
  f266 := Tryz.func155.trans (congrArg some (by kernel_rfl))
  f267 := Tryz.func117.trans (congrArg some (by kernel_rfl))
  f314 := Tryz.func156.trans (congrArg some (by kernel_rfl))
  t3 := Tryz.underlying3
  a3 := Tryz.isAgg3
  z3 := Tryz.sizeOf3
  v3 := Tryz.zeroValue3
  t4 := Tryz.underlying4
  a4 := Tryz.isAgg4
  z4 := Tryz.sizeOf4
  v4 := Tryz.zeroValue4
  t5 := Tryz.underlying5
  a5 := Tryz.isAgg5
  z5 := Tryz.sizeOf5
  v5 := Tryz.zeroValue5
  t9 := Tryz.underlying9
  a9 := Tryz.isAgg9
  z9 := Tryz.sizeOf9
  v9 := Tryz.zeroValue9
  t46 := Tryz.underlying144
  a46 := Tryz.isAgg144
  z46 := Tryz.sizeOf144
  v46 := Tryz.zeroValue144
  t51 := Tryz.underlying165
  a51 := Tryz.isAgg165
  z51 := Tryz.sizeOf165
  v51 := Tryz.zeroValue165
  t146 := Tryz.underlying180
  a146 := Tryz.isAgg180
  z146 := Tryz.sizeOf180
  v146 := Tryz.zeroValue180
  g1 := by kernel_rfl }
end Go.Proofs
namespace Go.Proofs.YthdgeepedofleaaGreatDoor
set_option linter.unusedVariables false
set_option linter.unusedSimpArgs false
open Go.RowKit
/-- A text up to the first byte c, or whole. -/
def uptS (c : UInt8) (s : ByteArray) : ByteArray := if idxS c s < 0 then s else s.extract 0 (idxS c s).toNat
theorem uptS_none {c : UInt8} {s : ByteArray} (h : idxS c s = -1) : uptS c s = s := by unfold uptS; rw [h]; rfl
theorem uptS_some {c : UInt8} {s : ByteArray} {i : Nat} (h : idxS c s = (i : Int)) : uptS c s = s.extract 0 i := by
  unfold uptS; rw [h, if_neg (by omega), Int.toNat_natCast]
set_option maxHeartbeats 1000000 in
theorem l6uptoS_any (s : ByteArray) (c : UInt8) (w : World) (hs : s.size ≤ maxLen) :
    Calls Tryz.prog 124 #[.string s, .int .u8 (c.toNat : Int)] w fun e w' => e = .returned (.string (uptS c s)) ∧ w' = w := by
  unfold maxLen at hs
  generalize hR : uptS c s = R
  have HR := hideB2 hR
  clear hR
  go_enter Tryz.func124, Tryz.ntmps124
  go_wp2
  go_loop [5] (fun i => ∃ k : Nat, k ≤ s.size ∧ i = .int .i64 k ∧ ∀ j, j < k → at8 s j ≠ c) (fun i => s.size - (intOf i).toNat)
  case atStart => exact ⟨0, Nat.zero_le _, rfl, fun j hj => by omega⟩
  case round =>
    obtain ⟨k, hk, rfl, hall⟩ := hrel
    have HA := hideB2 hall
    clear hall
    by_cases hlt : k < s.size
    · have hat : s[k] = at8 s k := at8_eq s k hlt
      have hcc : ((s[k].toNat : Int) == (c.toNat : Int)) = (at8 s k == c) := by rw [hat]; exact u8_beq _ _
      clear hat
      cases hq : (at8 s k == c)
      · rw [hq] at hcc
        have HQ := hideB2 (show at8 s k ≠ c from beq_eq_false_iff_ne.1 hq)
        clear hq
        go_wp2
        go_round
        case rel => exact ⟨k + 1, by omega, by go_num, all_succ HA.out HQ.out⟩
        case measure => simp [intOf]; omega
      · rw [hq] at hcc
        have HF := hideB2 (show R = s.extract 0 k by rw [← HR.out]; exact uptS_some (idxS_of hlt (beq_iff_eq.1 hq) HA.out))
        clear hq
        have c1 : (k : Int) ≤ (s.size : Int) := by omega
        go_wp2
        go_ret
        exact ⟨ret_str HF.out, rfl⟩
    · have HF := hideB2 (show R = s by rw [← HR.out]; exact uptS_none (idxS_miss (fun j hj => HA.out j (by omega))))
      go_wp2
      go_ret
      exact ⟨ret_str HF.out, rfl⟩
/-- What stands behind the first byte c, and is there one? -/
def bhS (c : UInt8) (s : ByteArray) : ByteArray := if idxS c s < 0 then ⟨#[]⟩ else s.extract ((idxS c s).toNat + 1) s.size
def hasS (c : UInt8) (s : ByteArray) : Bool := decide (0 ≤ idxS c s)
theorem cut_none {c : UInt8} {s : ByteArray} (h : idxS c s = -1) : uptS c s = s ∧ bhS c s = ⟨#[]⟩ ∧ hasS c s = false := by
  refine ⟨uptS_none h, ?_, ?_⟩
  · unfold bhS; rw [h]; rfl
  · unfold hasS; rw [h]; rfl
theorem cut_some {c : UInt8} {s : ByteArray} {i : Nat} (h : idxS c s = (i : Int)) : uptS c s = s.extract 0 i ∧ bhS c s = s.extract (i + 1) s.size ∧ hasS c s = true := by
  refine ⟨uptS_some h, ?_, ?_⟩
  · unfold bhS; rw [h, if_neg (by omega), Int.toNat_natCast]
  · unfold hasS; rw [h, decide_eq_true (by omega)]
theorem uptS_size (c : UInt8) (s : ByteArray) : (uptS c s).size ≤ s.size := by
  rcases idxS_cases c s with h | ⟨i, h, hi⟩
  · rw [uptS_none h]; exact Nat.le_refl _
  · rw [uptS_some h, ByteArray.size_extract]; omega
theorem bhS_size (c : UInt8) (s : ByteArray) : (bhS c s).size ≤ s.size := by
  rcases idxS_cases c s with h | ⟨i, h, hi⟩
  · rw [(cut_none h).2.1]; show (0 : Nat) ≤ _; omega
  · rw [(cut_some h).2.1, ByteArray.size_extract]; omega
theorem cut_len (c : UInt8) (s : ByteArray) : hasS c s = decide ((uptS c s).size < s.size) ∧ bhS c s = if (uptS c s).size < s.size then s.extract ((uptS c s).size + 1) s.size else ⟨#[]⟩ := by
  rcases idxS_cases c s with h | ⟨i, h, hi⟩
  · obtain ⟨a1, a2, a3⟩ := cut_none h
    rw [a1, a2, a3, decide_eq_false (Nat.lt_irrefl _), if_neg (Nat.lt_irrefl _)]
    exact ⟨rfl, rfl⟩
  · obtain ⟨a1, a2, a3⟩ := cut_some h
    have e : (s.extract 0 i).size = i := by rw [ByteArray.size_extract]; omega
    rw [a1, a2, a3, e, decide_eq_true hi, if_pos hi]
    exact ⟨rfl, rfl⟩
set_option maxHeartbeats 1000000 in
theorem CutS0_any (s : ByteArray) (c : UInt8) (w : World) (hs : s.size ≤ maxLen) :
    Calls Tryz.prog 260 #[.string s, .string ⟨#[c]⟩] w fun e w' => e = .returned (.tuple #[.string (uptS c s), .string (bhS c s), .bool (hasS c s)]) ∧ Below w.heap.size w w' := by
  unfold maxLen at hs
  have HI := hideB2 (fun W => Any.stringslite_Index_one Tryz.lays219 s c W)
  have hd1 : (⟨#[c]⟩ : ByteArray).size = 1 := rfl
  rcases idxS_cases c s with h | ⟨i, h, hi⟩
  · obtain ⟨a1, a2, a3⟩ := cut_none h
    rw [a1, a2, a3]
    rw [show Lib.indexByte s.data.toList c = -1 from h] at HI
    generalize (⟨#[c]⟩ : ByteArray) = D at *
    clear a1 a2 a3 h
    go_enter Tryz.func260, Tryz.ntmps260
    go_wp2_with (go_at_call 94; refine (HI.out _).mono ?_; rintro e w' ⟨rfl, rfl⟩)
    go_ret3
    exact ⟨rfl, Below.refl _ _⟩
  · obtain ⟨a1, a2, a3⟩ := cut_some h
    rw [a1, a2, a3]
    rw [show Lib.indexByte s.data.toList c = (i : Int) from h] at HI
    generalize (⟨#[c]⟩ : ByteArray) = D at *
    have e1 : IntKind.i64.wrap ((i : Int) + 1) = (i : Int) + 1 := by rw [IntKind.wrap_i64]; omega
    have c0 : (0 : Int) ≤ (i : Int) := by omega
    have c1 : (i : Int) ≤ (s.size : Int) := by omega
    have c2 : (0 : Int) ≤ (i : Int) + 1 := by omega
    have c3 : (i : Int) + 1 ≤ (s.size : Int) := by omega
    have hd2 : (D.size : Int) = 1 := by omega
    clear a1 a2 a3 h
    go_enter Tryz.func260, Tryz.ntmps260
    go_wp2_with (go_at_call 94; refine (HI.out _).mono ?_; rintro e w' ⟨rfl, rfl⟩)
    go_region
    go_wp2
    go_ret3
    exact ⟨rfl, (Below.refl _ _).drew⟩
set_option maxHeartbeats 1000000 in
theorem CutS_any (s : ByteArray) (c : UInt8) (w : World) (hs : s.size ≤ maxLen) :
    Calls Tryz.prog 224 #[.string s, .string ⟨#[c]⟩] w fun e w' => e = .returned (.tuple #[.string (uptS c s), .string (bhS c s), .bool (hasS c s)]) ∧ Below w.heap.size w w' := by
  have HC := hideB2 (fun W => CutS0_any s c W hs)
  generalize uptS c s = x at *
  generalize bhS c s = y at *
  generalize hasS c s = z at *
  generalize (⟨#[c]⟩ : ByteArray) = D at *
  go_enter Tryz.func224, Tryz.ntmps224
  go_wp2_with (go_at_call 260; refine (HC.out _).mono ?_; rintro e w' ⟨rfl, hb⟩)
  go_ret3
  exact ⟨rfl, hb⟩
end Go.Proofs.YthdgeepedofleaaGreatDoor
namespace Go.Proofs
open Go.Shelf
def Tryz.lays110_ren : Go.Shelf.Ren := ⟨fun | 110 => 269 | 109 => 300 | n => n, fun | 31 => 107 | 9 => 9 | 4 => 4 | 3 => 3 | 0 => 0 | n => n, fun | n => n⟩
theorem Tryz.lays110 : Go.Proofs.Lays.n110 Tryz.prog Tryz.lays110_ren := {
  mixed := by kernel_rfl
  f109 := Tryz.func300.trans (congrArg some (by kernel_rfl))
  f110 := Tryz.func269.trans (congrArg some (by kernel_rfl))
  t0 := Tryz.underlying0
  a0 := Tryz.isAgg0
  z0 := Tryz.sizeOf0
  v0 := Tryz.zeroValue0
  t3 := Tryz.underlying3
  a3 := Tryz.isAgg3
  z3 := Tryz.sizeOf3
  v3 := Tryz.zeroValue3
  t4 := Tryz.underlying4
  a4 := Tryz.isAgg4
  z4 := Tryz.sizeOf4
  v4 := Tryz.zeroValue4
  t9 := Tryz.underlying9
  a9 := Tryz.isAgg9
  z9 := Tryz.sizeOf9
  v9 := Tryz.zeroValue9
  t31 := Tryz.underlying107
  a31 := Tryz.isAgg107
  z31 := Tryz.sizeOf107
  v31 := Tryz.zeroValue107 }
def Tryz.lays144_ren : Go.Shelf.Ren := ⟨fun | 144 => 183 | 143 => 64 | 219 => 94 | 217 => 114 | 225 => 115 | 224 => 116 | 267 => 117 | 266 => 155 | 314 => 156 | n => n, fun | 9 => 9 | 4 => 4 | 3 => 3 | 5 => 5 | 46 => 144 | 146 => 180 | 51 => 165 | n => n, fun | 1 => 0 | n => n⟩
theorem Tryz.lays144 : Go.Proofs.Lays.n144 Tryz.prog Tryz.lays144_ren := {
  mixed := by kernel_rfl
  f143 := Tryz.func64.trans (congrArg some (by kernel_rfl))
  f144 := Tryz.func183.trans (congrArg some (by kernel_rfl))
  f217 := Tryz.func114.trans (congrArg some (by kernel_rfl))
  f219 := Tryz.func94.trans (congrArg some (by kernel_rfl))
  f224 := Tryz.func116.trans (congrArg some (by kernel_rfl))
  f225 := Tryz.func115.trans (congrArg some (by kernel_rfl))
  f266 := Tryz.func155.trans (congrArg some (by kernel_rfl))
  f267 := Tryz.func117.trans (congrArg some (by kernel_rfl))
  f314 := Tryz.func156.trans (congrArg some (by kernel_rfl))
  t3 := Tryz.underlying3
  a3 := Tryz.isAgg3
  z3 := Tryz.sizeOf3
  v3 := Tryz.zeroValue3
  t4 := Tryz.underlying4
  a4 := Tryz.isAgg4
  z4 := Tryz.sizeOf4
  v4 := Tryz.zeroValue4
  t5 := Tryz.underlying5
  a5 := Tryz.isAgg5
  z5 := Tryz.sizeOf5
  v5 := Tryz.zeroValue5
  t9 := Tryz.underlying9
  a9 := Tryz.isAgg9
  z9 := Tryz.sizeOf9
  v9 := Tryz.zeroValue9
  t46 := Tryz.underlying144
  a46 := Tryz.isAgg144
  z46 := Tryz.sizeOf144
  v46 := Tryz.zeroValue144
  t51 := Tryz.underlying165
  a51 := Tryz.isAgg165
  z51 := Tryz.sizeOf165
  v51 := Tryz.zeroValue165
  t146 := Tryz.underlying180
  a146 := Tryz.isAgg180
  z146 := Tryz.sizeOf180
  v146 := Tryz.zeroValue180
  g1 := by kernel_rfl }
end Go.Proofs
namespace Go.Proofs.YthdgeepedofleaaGreatDoor
set_option linter.unusedVariables false
set_option linter.unusedSimpArgs false
open Go.RowKit
set_option maxHeartbeats 1000000 in
theorem hostSign_any (r : Int) (w : World) :
    Calls Tryz.prog 268 #[.int .i32 r] w fun e w' => e = .returned (.bool (hstP r)) ∧ w' = w := by
  unfold hstP pcP digP
  by_cases a1 : 97 ≤ r
  · by_cases a2 : r ≤ 122
    · go_enter Tryz.func268, Tryz.ntmps268
      go_wp2
      go_ret
      exact ⟨ret_bool (by first | (simp [a1, a2]; done) | (simp [a1, a2] <;> omega)), rfl⟩
    · have b1 : 48 ≤ r := by omega
      have b2 : ¬ r ≤ 57 := by omega
      have e1 : (r == 45) = false := by rw [beq_eq_false_iff_ne]; omega
      have e2 : (r == 46) = false := by rw [beq_eq_false_iff_ne]; omega
      go_enter Tryz.func268, Tryz.ntmps268
      go_wp2
      go_ret
      exact ⟨ret_bool (by first | (simp [a1, a2, b1, b2, e1, e2]; done) | (simp [a1, a2, b1, b2, e1, e2] <;> omega)), rfl⟩
  · by_cases b1 : 48 ≤ r
    · by_cases b2 : r ≤ 57
      · go_enter Tryz.func268, Tryz.ntmps268
        go_wp2
        go_ret
        exact ⟨ret_bool (by first | (simp [b1, b2]; done) | (simp [b1, b2] <;> omega)), rfl⟩
      · have e1 : (r == 45) = false := by rw [beq_eq_false_iff_ne]; omega
        have e2 : (r == 46) = false := by rw [beq_eq_false_iff_ne]; omega
        go_enter Tryz.func268, Tryz.ntmps268
        go_wp2
        go_ret
        exact ⟨ret_bool (by first | (simp [a1, b1, b2, e1, e2]; done) | (simp [a1, b1, b2, e1, e2] <;> omega)), rfl⟩
    · cases e1 : (r == 45)
      · go_enter Tryz.func268, Tryz.ntmps268
        go_wp2
        go_ret
        exact ⟨ret_bool (by first | (simp [a1, b1, e1]; done) | (simp [a1, b1, e1] <;> omega)), rfl⟩
      · go_enter Tryz.func268, Tryz.ntmps268
        go_wp2
        go_ret
        exact ⟨ret_bool (by first | (simp [e1]; done) | (simp [e1] <;> omega)), rfl⟩
def emptyS (l : List ByteArray) : Bool := l.any fun x => eqB x ⟨#[]⟩
theorem containsS_empty (l : List ByteArray) : Lib.containsS l ⟨#[]⟩ = emptyS l := by
  rw [Bool.eq_iff_iff, Lib.containsS_iff]
  unfold emptyS
  rw [List.any_eq_true]
  constructor
  · intro h; exact ⟨_, h, eqB_self _⟩
  · rintro ⟨x, hx, he⟩; rw [← eqB_iff.1 he]; exact hx
theorem ContainsE_any (w0 w : World) (v : Value) (l : List ByteArray) (hb : BufS w0 w v l) (hl : l.length ≤ 1048577) (hne : l ≠ []) :
    Calls Tryz.prog 269 #[v, .string ⟨#[]⟩] w fun e w' => e = .returned (.bool (emptyS l)) ∧ w' = w := by
  obtain ⟨g, cap, rfl, _, _, hc⟩ := hb.cells (List.length_pos_iff.2 hne)
  have h := Any.slices_Contains_string Tryz.lays110 g 0 l.length cap l ⟨#[]⟩ w (Nat.le_refl _) (by omega) (fun j hj => by rw [Nat.zero_add]; exact hc j hj)
  rw [List.take_of_length_le (Nat.le_refl _), containsS_empty] at h
  exact h
set_option maxRecDepth 100000 in
set_option maxHeartbeats 4000000 in
theorem hostOk_any (s : ByteArray) (w : World) (hs : s.size ≤ maxLen) :
    Calls Tryz.prog 231 #[.string s] w fun e w' => e = .returned (.bool (hostQ s)) ∧ Below w.heap.size w w' := by
  have hs' := hs
  unfold maxLen at hs'
  by_cases h60 : (60 : Int) < (s.size : Int)
  · rw [show hostQ s = false by unfold hostQ; rw [decide_eq_false (by omega)]; rfl]
    go_enter Tryz.func231, Tryz.ntmps231
    go_wp2
    go_ret
    exact ⟨rfl, Below.refl _ _⟩
  · have HSP := hideB2 (fun W => SplitS_any s 46 W (by omega))
    have hls := (splS_le 46 s).1
    have hne := splS_ne 46 s
    have HC := hideB2 (fun w0 w1 v (h : BufS w0 w1 v (splS 46 s)) => ContainsE_any w0 w1 v _ h (by omega) hne)
    generalize hR : hostQ s = R
    have HR := hideB2 (show R = (allB hst8 s && !emptyS (splS 46 s)) by rw [← hR]; unfold hostQ; rw [decide_eq_true (by omega), Bool.true_and]; rfl)
    clear hR hls hne
    generalize splS 46 s = L at *
    have HI := hideB2 (fun k => (below_a1 w (.stringIter s k) : Below w.heap.size w (w.iter s k)))
    go_enter Tryz.func231, Tryz.ntmps231
    go_wp2
    go_loopg [10, 11] s.size (fun g _ _ wx => ∃ i : Nat, i + g = s.size ∧ wx = w.iter s i ∧ ∀ j, j < i → hst8 (at8 s j) = true)
    case atStart => exact ⟨0, by omega, rfl, fun j hj => by omega⟩
    case round =>
      obtain ⟨i, hig, rfl, hall⟩ := hrel
      have HA := hideB2 hall
      clear hall
      cases gk with
      | zero =>
        obtain rfl : i = s.size := by omega
        have hnx := run_next_end (P := Tryz.prog) w s s.size
        have HF := hideB2 (show R = !emptyS L by rw [HR.out, allB_yes (fun j hj => HA.out j hj), Bool.true_and])
        clear HR
        generalize emptyS L = q at *
        go_wp2_with (first | (go_at_call 227; refine (HSP.out _).mono ?_; rintro e w5 ⟨v5, rfl, hb5⟩) | (go_at_call 269; refine (HC.out _ _ _ hb5).mono ?_; rintro e w6 ⟨rfl, rfl⟩))
        go_ret
        exact ⟨ret_bool HF.out, below_then (HI.out _) hb5.below⟩
      | succ g =>
        have hi : i < s.size := by omega
        have hat : s[i] = at8 s i := at8_eq s i hi
        by_cases ha : (s[i]).toNat < 128
        · have hnx := fun ty => run_next_ascii (P := Tryz.prog) w s i ty hi ha
          have HS := hideB2 (fun W => hostSign_any (s[i].toNat : Int) W)
          cases hq : hst8 (at8 s i)
          · have hq2 : hstP (s[i].toNat : Int) = false := by rw [hat]; exact hq
            rw [hq2] at HS
            have HF := hideB2 (show R = false by rw [HR.out, allB_no hi hq]; rfl)
            clear hq hq2 hat
            go_wp2_with (go_at_call 268; refine (HS.out _).mono ?_; rintro e w' ⟨rfl, rfl⟩)
            go_ret
            exact ⟨ret_bool HF.out, HI.out _⟩
          · have hq2 : hstP (s[i].toNat : Int) = true := by rw [hat]; exact hq
            rw [hq2] at HS
            have HQ := hideB2 hq
            clear hq hq2 hat
            go_wp2_with (go_at_call 268; refine (HS.out _).mono ?_; rintro e w' ⟨rfl, rfl⟩)
            go_roundg g
            case measure => omega
            case rel => exact ⟨i + 1, by omega, rfl, all_succ HA.out HQ.out⟩
        · have hnx := fun ty => run_next_any (P := Tryz.prog) w s i ty hi
          obtain ⟨d1', d2'⟩ := decode_high s i hi (by omega)
          have HF := hideB2 (show R = false by
            rw [HR.out, allB_no hi (p := hst8) ?_]; rfl
            rw [← hat]
            unfold hst8 hstP pcP digP
            rw [decide_eq_false (show ¬ ((s[i].toNat : Int) ≤ 122) by omega), decide_eq_false (show ¬ ((s[i].toNat : Int) ≤ 57) by omega), beq_eq_false_iff_ne.2 (show (s[i].toNat : Int) ≠ 45 by omega), beq_eq_false_iff_ne.2 (show (s[i].toNat : Int) ≠ 46 by omega)]
            simp)
          generalize hdc : Utf8.decode s i = dc at *
          obtain ⟨rn, wd⟩ := dc
          simp only at d1' hnx
          have HS := hideB2 (fun W => hostSign_any (rn : Int) W)
          have hz : hstP (rn : Int) = false := by
            unfold hstP pcP digP
            rw [decide_eq_false (show ¬ ((rn : Int) ≤ 122) by omega), decide_eq_false (show ¬ ((rn : Int) ≤ 57) by omega), beq_eq_false_iff_ne.2 (show (rn : Int) ≠ 45 by omega), beq_eq_false_iff_ne.2 (show (rn : Int) ≠ 46 by omega)]
            simp
          rw [hz] at HS
          clear hz hat
          go_wp2_with (go_at_call 268; refine (HS.out _).mono ?_; rintro e w' ⟨rfl, rfl⟩)
          go_ret
          exact ⟨ret_bool HF.out, HI.out _⟩
end Go.Proofs.YthdgeepedofleaaGreatDoor
namespace Go.Proofs.YthdgeepedofleaaGreatDoor
set_option linter.unusedVariables false
set_option linter.unusedSimpArgs false
open Go.RowKit
theorem Blk.u5 {w : World} {g : Nat} {a b c d e : Value} {t : TypeId} (H : Blk w g #[a, b, c, d, e] t) : w.cell? ⟨g, 0, none⟩ = some a ∧ w.cell? ⟨g, 1, none⟩ = some b ∧ w.cell? ⟨g, 2, none⟩ = some c ∧ w.cell? ⟨g, 3, none⟩ = some d ∧ w.cell? ⟨g, 4, none⟩ = some e :=
  ⟨H.cell 0, H.cell 1, H.cell 2, H.cell 3, H.cell 4⟩
theorem eqB_nilU {s : ByteArray} : eqB s ⟨#[]⟩ = s.toList.isEmpty := by
  unfold eqB
  rw [ByteArray.toList_eq ⟨#[]⟩]
  cases s.toList <;> rfl
theorem portB_80 : portB 80 = ⟨#[]⟩ := rfl
theorem portB_no {n : Int} (h : (n == 80) = false) : portB n = (⟨#[58]⟩ : ByteArray) ++ decT n := by
  unfold portB; rw [if_neg (beq_eq_false_iff_ne.1 h)]
set_option maxHeartbeats 1000000 in
theorem portText_any (ho pa qu : ByteArray) (po : Int) (hq : Bool) (w : World) (htab : Tab10 w) :
    Calls Tryz.prog 233 #[.agg #[.string ho, .int .i64 po, .string pa, .string qu, .bool hq]] w fun e w' => e = .returned (.string (portB po)) ∧ Below w.heap.size w w' := by
  have HB := hideB2 (below_a1 w (.cells #[.string ho, .int .i64 po, .string pa, .string qu, .bool hq] 139))
  have HT := hideB2 (tab_later htab HB.out)
  clear htab
  cases h80 : (po == 80)
  · rw [portB_no h80]
    have HD := hideB2 (fun W h => DecText_all po W h)
    have hdz := decT_size po
    generalize decT po = d at *
    go_enter Tryz.func233, Tryz.ntmps233
    go_wp2_with (go_at_call 59; refine (HD.out _ HT.out).mono ?_; rintro e w1 ⟨rfl, hb1⟩)
    go_ret
    exact ⟨rfl, below_then HB.out hb1⟩
  · obtain rfl := beq_iff_eq.1 h80
    go_enter Tryz.func233, Tryz.ntmps233
    go_wp2
    go_ret
    exact ⟨rfl, HB.out⟩
set_option maxHeartbeats 1000000 in
theorem queryText_any (ho pa qu : ByteArray) (po : Int) (hq : Bool) (w : World) (hqu : qu.size ≤ 1048576) :
    Calls Tryz.prog 234 #[.agg #[.string ho, .int .i64 po, .string pa, .string qu, .bool hq]] w fun e w' => e = .returned (.string (qryB qu hq)) ∧ Below w.heap.size w w' := by
  have HB := hideB2 (below_a1 w (.cells #[.string ho, .int .i64 po, .string pa, .string qu, .bool hq] 139))
  cases hq
  · go_enter Tryz.func234, Tryz.ntmps234
    go_wp2
    go_ret
    exact ⟨rfl, HB.out⟩
  · go_enter Tryz.func234, Tryz.ntmps234
    go_wp2
    go_ret
    exact ⟨rfl, HB.out⟩
set_option maxRecDepth 100000 in
set_option maxHeartbeats 2000000 in
theorem urlText_any (ho pa qu : ByteArray) (po : Int) (hq : Bool) (w : World) (htab : Tab10 w) (hho : ho.size ≤ 1048576) (hpa : pa.size ≤ 1048576) (hqu : qu.size ≤ 1048576) :
    Calls Tryz.prog 189 #[.agg #[.string ho, .int .i64 po, .string pa, .string qu, .bool hq]] w fun e w' => e = .returned (.string (utxt ho pa qu po hq)) ∧ Below w.heap.size w w' := by
  have HB := hideB2 (below_a1 w (.cells #[.string ho, .int .i64 po, .string pa, .string qu, .bool hq] 139))
  have A1 := Blk.new w #[.string ho, .int .i64 po, .string pa, .string qu, .bool hq] 139
  have HT := hideB2 (tab_later htab HB.out)
  have hz1 := portB_size po
  have hz2 := qryB_size qu hq
  have HP := hideB2 (fun W h => portText_any ho pa qu po hq W h)
  have HQ := hideB2 (fun W => queryText_any ho pa qu po hq W hqu)
  have HE := hideB2 (show utxt ho pa qu po hq = (((⟨#[104, 116, 116, 112, 58, 47, 47]⟩ ++ ho) ++ portB po) ++ pa) ++ qryB qu hq from rfl)
  clear htab
  generalize utxt ho pa qu po hq = R at *
  generalize portB po = P at *
  generalize qryB qu hq = Q at *
  have hs0 : (⟨#[104, 116, 116, 112, 58, 47, 47]⟩ : ByteArray).size = 7 := rfl
  have hs1 : ((⟨#[104, 116, 116, 112, 58, 47, 47]⟩ : ByteArray) ++ ho).size ≤ 1048583 := by rw [ByteArray.size_append]; omega
  have hs2 : (((⟨#[104, 116, 116, 112, 58, 47, 47]⟩ : ByteArray) ++ ho) ++ P).size ≤ 1048600 := by rw [ByteArray.size_append]; omega
  have hs3 : ((((⟨#[104, 116, 116, 112, 58, 47, 47]⟩ : ByteArray) ++ ho) ++ P) ++ pa).size ≤ 2097180 := by rw [ByteArray.size_append]; omega
  go_enter Tryz.func189, Tryz.ntmps189
  go_wp2
  generalize hW : w.alloc (.cells #[.string ho, .int .i64 po, .string pa, .string qu, .bool hq] 139) = W at *
  clear hW
  obtain ⟨p0, p1, p2, p3, p4⟩ := A1.u5
  have z0 := fun V => grw_some p0 V
  have z1 := fun V => grw_some p1 V
  have z2 := fun V => grw_some p2 V
  have z3 := fun V => grw_some p3 V
  have z4 := fun V => grw_some p4 V
  have HTV := hideB2 (fun V : Gr W => tab_later HT.out (grw_below W V))
  clear p0 p1 p2 p3 p4 A1
  refine wp_region_grow ?_ ?_ ?_
  · kernel_rfl
  · kernel_rfl
  · intro hne
    repeat (go_big_quiet_step ((first | (go_at_call 233; exact grow_call (HP.out _ (HTV.out _))) | (go_at_call 234; exact grow_call (HQ.out _)))))
    refine wpQuiet_nil ?_
    rintro _ ⟨V, rfl⟩
    have HBV := hideB2 (below_then HB.out (grw_below W V))
    generalize grw W V = w3 at *
    go_wp2
    go_ret
    exact ⟨ret_str HE.out, HBV.out⟩
set_option maxHeartbeats 1000000 in
theorem queryOk_any (ho pa qu : ByteArray) (po : Int) (hq : Bool) (w : World) :
    Calls Tryz.prog 232 #[.agg #[.string ho, .int .i64 po, .string pa, .string qu, .bool hq]] w fun e w' => e = .returned (.bool (queQ qu hq)) ∧ Below w.heap.size w w' := by
  have HB := hideB2 (below_a1 w (.cells #[.string ho, .int .i64 po, .string pa, .string qu, .bool hq] 139))
  have HC := hideB2 (fun W => Any.strings_Contains_one Tryz.lays144 qu 35 W)
  have HI := hideB2 (show (!decide (0 ≤ idxS 35 qu)) = decide (idxS 35 qu < 0) by
    by_cases h : 0 ≤ idxS 35 qu
    · rw [decide_eq_true h, decide_eq_false (by omega)]; rfl
    · rw [decide_eq_false h, decide_eq_true (by omega)]; rfl)
  change Hid (∀ W, Calls _ _ _ W fun e w' => e = .returned (.bool (decide (0 ≤ idxS 35 qu))) ∧ w' = W) at HC
  unfold queQ
  generalize decide (0 ≤ idxS 35 qu) = x at *
  generalize decide (idxS 35 qu < 0) = y at *
  cases hq
  · cases he : eqB qu ⟨#[]⟩
    · rw [eqB_nilU] at he
      go_enter Tryz.func232, Tryz.ntmps232
      go_wp2
      go_ret
      exact ⟨rfl, HB.out⟩
    · rw [eqB_nilU] at he
      go_enter Tryz.func232, Tryz.ntmps232
      go_wp2_with (go_at_call 183; refine (HC.out _).mono ?_; rintro e w1 ⟨rfl, rfl⟩)
      go_ret
      exact ⟨ret_bool HI.out.symm, HB.out⟩
  · rw [Bool.true_or, Bool.true_and]
    go_enter Tryz.func232, Tryz.ntmps232
    go_wp2_with (go_at_call 183; refine (HC.out _).mono ?_; rintro e w1 ⟨rfl, rfl⟩)
    go_ret
    exact ⟨ret_bool HI.out.symm, HB.out⟩
set_option maxRecDepth 100000 in
set_option maxHeartbeats 8000000 in
theorem UrlOk_any (ho pa qu : ByteArray) (po : Int) (hq : Bool) (w : World) (htab : Tab10 w) (hho : ho.size ≤ 1048576) (hpa : pa.size ≤ 1048576) (hqu : qu.size ≤ 1048576) :
    Calls Tryz.prog 188 #[.agg #[.string ho, .int .i64 po, .string pa, .string qu, .bool hq]] w fun e w' => e = .returned (.bool (urlQ ho pa qu po hq)) ∧ Below w.heap.size w w' := by
  have HB := hideB2 (below_a1 w (.cells #[.string ho, .int .i64 po, .string pa, .string qu, .bool hq] 139))
  have A1 := hideB2 (Blk.new w #[.string ho, .int .i64 po, .string pa, .string qu, .bool hq] 139)
  have HT := hideB2 (tab_later htab HB.out)
  have HH := hideB2 (fun W => hostOk_any ho W (by unfold maxLen; omega))
  have HW := hideB2 (fun W => within_any po 1 65535 W)
  have HCP := hideB2 (fun W => CleanPath_any pa W (by unfold maxLen; omega))
  have HQO := hideB2 (fun W => queryOk_any ho pa qu po hq W)
  have HUT := hideB2 (fun W h => urlText_any ho pa qu po hq W h hho hpa hqu)
  have hz1 := portB_size po
  have hz2 := qryB_size qu hq
  have hz3 := utxt_size ho pa qu po hq
  have HTO := hideB2 (fun W => targetOk_any (utxt ho pa qu po hq) W (by unfold maxLen; omega))
  have HE := hideB2 (show urlQ ho pa qu po hq = (hostQ ho && withinB po 1 65535 && !eqB pa ⟨#[]⟩ && eqB (clnB pa) pa && queQ qu hq && targQ (utxt ho pa qu po hq)) from rfl)
  have HCE := hideB2 (show ((clnB pa).toList == pa.toList) = eqB (clnB pa) pa from rfl)
  clear htab hz1 hz2 hz3
  generalize urlQ ho pa qu po hq = R at *
  generalize utxt ho pa qu po hq = T at *
  generalize targQ T = b6 at *
  generalize queQ qu hq = b5 at *
  generalize hostQ ho = b1 at *
  generalize withinB po 1 65535 = b2 at *
  generalize eqB (clnB pa) pa = b4 at *
  generalize clnB pa = cp at *
  have hcc := HCE.out
  clear HCE
  cases h3 : eqB pa ⟨#[]⟩
  · rw [h3] at HE
    rw [eqB_nilU] at h3
    cases b1
    · rw [show (false && b2 && !false && b4 && b5 && b6) = false by simp] at HE
      go_enter Tryz.func188, Tryz.ntmps188
      go_wp2
      generalize hW0 : w.alloc (.cells #[.string ho, .int .i64 po, .string pa, .string qu, .bool hq] 139) = W at *
      clear hW0
      obtain ⟨p0, p1, p2, p3, p4⟩ := A1.out.u5
      have z0 := fun V => grw_some p0 V
      have z1 := fun V => grw_some p1 V
      have z2 := fun V => grw_some p2 V
      have z3 := fun V => grw_some p3 V
      have z4 := fun V => grw_some p4 V
      have HTV := hideB2 (fun V : Gr W => tab_later HT.out (grw_below W V))
      clear p0 p1 p2 p3 p4 A1
      refine wp_region_grow ?_ ?_ ?_
      · kernel_rfl
      · kernel_rfl
      · intro hne0
        repeat (go_big_quiet_step ((first | (go_at_call 231; exact grow_call (HH.out _)) | (go_at_call 34; exact grow_same (HW.out _)) | (go_at_call 187; exact grow_call (HCP.out _)) | (go_at_call 232; exact grow_call (HQO.out _)) | (go_at_call 189; exact grow_call (HUT.out _ (HTV.out _))) | (go_at_call 182; exact grow_same (HTO.out _)))))
        refine wpQuiet_nil ?_
        rintro _ ⟨V, rfl⟩
        have HBV := hideB2 (below_then HB.out (grw_below W V))
        generalize grw W V = w3 at *
        go_wp2
        go_ret
        exact ⟨ret_bool HE.out, HBV.out⟩
    · cases b2
      · rw [show (true && false && !false && b4 && b5 && b6) = false by simp] at HE
        go_enter Tryz.func188, Tryz.ntmps188
        go_wp2
        generalize hW0 : w.alloc (.cells #[.string ho, .int .i64 po, .string pa, .string qu, .bool hq] 139) = W at *
        clear hW0
        obtain ⟨p0, p1, p2, p3, p4⟩ := A1.out.u5
        have z0 := fun V => grw_some p0 V
        have z1 := fun V => grw_some p1 V
        have z2 := fun V => grw_some p2 V
        have z3 := fun V => grw_some p3 V
        have z4 := fun V => grw_some p4 V
        have HTV := hideB2 (fun V : Gr W => tab_later HT.out (grw_below W V))
        clear p0 p1 p2 p3 p4 A1
        refine wp_region_grow ?_ ?_ ?_
        · kernel_rfl
        · kernel_rfl
        · intro hne0
          repeat (go_big_quiet_step ((first | (go_at_call 231; exact grow_call (HH.out _)) | (go_at_call 34; exact grow_same (HW.out _)) | (go_at_call 187; exact grow_call (HCP.out _)) | (go_at_call 232; exact grow_call (HQO.out _)) | (go_at_call 189; exact grow_call (HUT.out _ (HTV.out _))) | (go_at_call 182; exact grow_same (HTO.out _)))))
          refine wpQuiet_nil ?_
          rintro _ ⟨V, rfl⟩
          have HBV := hideB2 (below_then HB.out (grw_below W V))
          generalize grw W V = w3 at *
          go_wp2
          go_ret
          exact ⟨ret_bool HE.out, HBV.out⟩
      · cases b4
        · rw [show (true && true && !false && false && b5 && b6) = false by simp] at HE
          go_enter Tryz.func188, Tryz.ntmps188
          go_wp2
          generalize hW0 : w.alloc (.cells #[.string ho, .int .i64 po, .string pa, .string qu, .bool hq] 139) = W at *
          clear hW0
          obtain ⟨p0, p1, p2, p3, p4⟩ := A1.out.u5
          have z0 := fun V => grw_some p0 V
          have z1 := fun V => grw_some p1 V
          have z2 := fun V => grw_some p2 V
          have z3 := fun V => grw_some p3 V
          have z4 := fun V => grw_some p4 V
          have HTV := hideB2 (fun V : Gr W => tab_later HT.out (grw_below W V))
          clear p0 p1 p2 p3 p4 A1
          refine wp_region_grow ?_ ?_ ?_
          · kernel_rfl
          · kernel_rfl
          · intro hne0
            repeat (go_big_quiet_step ((first | (go_at_call 231; exact grow_call (HH.out _)) | (go_at_call 34; exact grow_same (HW.out _)) | (go_at_call 187; exact grow_call (HCP.out _)) | (go_at_call 232; exact grow_call (HQO.out _)) | (go_at_call 189; exact grow_call (HUT.out _ (HTV.out _))) | (go_at_call 182; exact grow_same (HTO.out _)))))
            refine wpQuiet_nil ?_
            rintro _ ⟨V, rfl⟩
            have HBV := hideB2 (below_then HB.out (grw_below W V))
            generalize grw W V = w3 at *
            go_wp2
            go_ret
            exact ⟨ret_bool HE.out, HBV.out⟩
        · cases b5
          · rw [show (true && true && !false && true && false && b6) = false by simp] at HE
            go_enter Tryz.func188, Tryz.ntmps188
            go_wp2
            generalize hW0 : w.alloc (.cells #[.string ho, .int .i64 po, .string pa, .string qu, .bool hq] 139) = W at *
            clear hW0
            obtain ⟨p0, p1, p2, p3, p4⟩ := A1.out.u5
            have z0 := fun V => grw_some p0 V
            have z1 := fun V => grw_some p1 V
            have z2 := fun V => grw_some p2 V
            have z3 := fun V => grw_some p3 V
            have z4 := fun V => grw_some p4 V
            have HTV := hideB2 (fun V : Gr W => tab_later HT.out (grw_below W V))
            clear p0 p1 p2 p3 p4 A1
            refine wp_region_grow ?_ ?_ ?_
            · kernel_rfl
            · kernel_rfl
            · intro hne0
              repeat (go_big_quiet_step ((first | (go_at_call 231; exact grow_call (HH.out _)) | (go_at_call 34; exact grow_same (HW.out _)) | (go_at_call 187; exact grow_call (HCP.out _)) | (go_at_call 232; exact grow_call (HQO.out _)) | (go_at_call 189; exact grow_call (HUT.out _ (HTV.out _))) | (go_at_call 182; exact grow_same (HTO.out _)))))
              refine wpQuiet_nil ?_
              rintro _ ⟨V, rfl⟩
              have HBV := hideB2 (below_then HB.out (grw_below W V))
              generalize grw W V = w3 at *
              go_wp2
              go_ret
              exact ⟨ret_bool HE.out, HBV.out⟩
          · rw [show (true && true && !false && true && true && b6) = b6 by simp] at HE
            go_enter Tryz.func188, Tryz.ntmps188
            go_wp2
            generalize hW0 : w.alloc (.cells #[.string ho, .int .i64 po, .string pa, .string qu, .bool hq] 139) = W at *
            clear hW0
            obtain ⟨p0, p1, p2, p3, p4⟩ := A1.out.u5
            have z0 := fun V => grw_some p0 V
            have z1 := fun V => grw_some p1 V
            have z2 := fun V => grw_some p2 V
            have z3 := fun V => grw_some p3 V
            have z4 := fun V => grw_some p4 V
            have HTV := hideB2 (fun V : Gr W => tab_later HT.out (grw_below W V))
            clear p0 p1 p2 p3 p4 A1
            refine wp_region_grow ?_ ?_ ?_
            · kernel_rfl
            · kernel_rfl
            · intro hne0
              repeat (go_big_quiet_step ((first | (go_at_call 231; exact grow_call (HH.out _)) | (go_at_call 34; exact grow_same (HW.out _)) | (go_at_call 187; exact grow_call (HCP.out _)) | (go_at_call 232; exact grow_call (HQO.out _)) | (go_at_call 189; exact grow_call (HUT.out _ (HTV.out _))) | (go_at_call 182; exact grow_same (HTO.out _)))))
              refine wpQuiet_nil ?_
              rintro _ ⟨V, rfl⟩
              have HBV := hideB2 (below_then HB.out (grw_below W V))
              generalize grw W V = w3 at *
              go_wp2
              go_ret
              exact ⟨ret_bool HE.out, HBV.out⟩
  · rw [h3] at HE
    rw [eqB_nilU] at h3
    cases b1
    · rw [show (false && b2 && !true && b4 && b5 && b6) = false by simp] at HE
      go_enter Tryz.func188, Tryz.ntmps188
      go_wp2
      generalize hW0 : w.alloc (.cells #[.string ho, .int .i64 po, .string pa, .string qu, .bool hq] 139) = W at *
      clear hW0
      obtain ⟨p0, p1, p2, p3, p4⟩ := A1.out.u5
      have z0 := fun V => grw_some p0 V
      have z1 := fun V => grw_some p1 V
      have z2 := fun V => grw_some p2 V
      have z3 := fun V => grw_some p3 V
      have z4 := fun V => grw_some p4 V
      have HTV := hideB2 (fun V : Gr W => tab_later HT.out (grw_below W V))
      clear p0 p1 p2 p3 p4 A1
      refine wp_region_grow ?_ ?_ ?_
      · kernel_rfl
      · kernel_rfl
      · intro hne0
        repeat (go_big_quiet_step ((first | (go_at_call 231; exact grow_call (HH.out _)) | (go_at_call 34; exact grow_same (HW.out _)) | (go_at_call 187; exact grow_call (HCP.out _)) | (go_at_call 232; exact grow_call (HQO.out _)) | (go_at_call 189; exact grow_call (HUT.out _ (HTV.out _))) | (go_at_call 182; exact grow_same (HTO.out _)))))
        refine wpQuiet_nil ?_
        rintro _ ⟨V, rfl⟩
        have HBV := hideB2 (below_then HB.out (grw_below W V))
        generalize grw W V = w3 at *
        go_wp2
        go_ret
        exact ⟨ret_bool HE.out, HBV.out⟩
    · cases b2
      · rw [show (true && false && !true && b4 && b5 && b6) = false by simp] at HE
        go_enter Tryz.func188, Tryz.ntmps188
        go_wp2
        generalize hW0 : w.alloc (.cells #[.string ho, .int .i64 po, .string pa, .string qu, .bool hq] 139) = W at *
        clear hW0
        obtain ⟨p0, p1, p2, p3, p4⟩ := A1.out.u5
        have z0 := fun V => grw_some p0 V
        have z1 := fun V => grw_some p1 V
        have z2 := fun V => grw_some p2 V
        have z3 := fun V => grw_some p3 V
        have z4 := fun V => grw_some p4 V
        have HTV := hideB2 (fun V : Gr W => tab_later HT.out (grw_below W V))
        clear p0 p1 p2 p3 p4 A1
        refine wp_region_grow ?_ ?_ ?_
        · kernel_rfl
        · kernel_rfl
        · intro hne0
          repeat (go_big_quiet_step ((first | (go_at_call 231; exact grow_call (HH.out _)) | (go_at_call 34; exact grow_same (HW.out _)) | (go_at_call 187; exact grow_call (HCP.out _)) | (go_at_call 232; exact grow_call (HQO.out _)) | (go_at_call 189; exact grow_call (HUT.out _ (HTV.out _))) | (go_at_call 182; exact grow_same (HTO.out _)))))
          refine wpQuiet_nil ?_
          rintro _ ⟨V, rfl⟩
          have HBV := hideB2 (below_then HB.out (grw_below W V))
          generalize grw W V = w3 at *
          go_wp2
          go_ret
          exact ⟨ret_bool HE.out, HBV.out⟩
      · rw [show (true && true && !true && b4 && b5 && b6) = false by simp] at HE
        go_enter Tryz.func188, Tryz.ntmps188
        go_wp2
        generalize hW0 : w.alloc (.cells #[.string ho, .int .i64 po, .string pa, .string qu, .bool hq] 139) = W at *
        clear hW0
        obtain ⟨p0, p1, p2, p3, p4⟩ := A1.out.u5
        have z0 := fun V => grw_some p0 V
        have z1 := fun V => grw_some p1 V
        have z2 := fun V => grw_some p2 V
        have z3 := fun V => grw_some p3 V
        have z4 := fun V => grw_some p4 V
        have HTV := hideB2 (fun V : Gr W => tab_later HT.out (grw_below W V))
        clear p0 p1 p2 p3 p4 A1
        refine wp_region_grow ?_ ?_ ?_
        · kernel_rfl
        · kernel_rfl
        · intro hne0
          repeat (go_big_quiet_step ((first | (go_at_call 231; exact grow_call (HH.out _)) | (go_at_call 34; exact grow_same (HW.out _)) | (go_at_call 187; exact grow_call (HCP.out _)) | (go_at_call 232; exact grow_call (HQO.out _)) | (go_at_call 189; exact grow_call (HUT.out _ (HTV.out _))) | (go_at_call 182; exact grow_same (HTO.out _)))))
          refine wpQuiet_nil ?_
          rintro _ ⟨V, rfl⟩
          have HBV := hideB2 (below_then HB.out (grw_below W V))
          generalize grw W V = w3 at *
          go_wp2
          go_ret
          exact ⟨ret_bool HE.out, HBV.out⟩
def textB (ho pa qu : ByteArray) (po : Int) (hq : Bool) : ByteArray := if urlQ ho pa qu po hq = true then utxt ho pa qu po hq else ⟨#[]⟩
set_option maxHeartbeats 2000000 in
theorem UrlText_any (ho pa qu : ByteArray) (po : Int) (hq : Bool) (w : World) (htab : Tab10 w) (hho : ho.size ≤ 1048576) (hpa : pa.size ≤ 1048576) (hqu : qu.size ≤ 1048576) :
    Calls Tryz.prog 139 #[.agg #[.string ho, .int .i64 po, .string pa, .string qu, .bool hq]] w fun e w' => e = .returned (.string (textB ho pa qu po hq)) ∧ Below w.heap.size w w' := by
  have HB := hideB2 (below_a1 w (.cells #[.string ho, .int .i64 po, .string pa, .string qu, .bool hq] 139))
  have A1 := hideB2 (Blk.new w #[.string ho, .int .i64 po, .string pa, .string qu, .bool hq] 139)
  have HT := hideB2 (tab_later htab HB.out)
  have HU := hideB2 (fun W h => UrlOk_any ho pa qu po hq W h hho hpa hqu)
  have HX := hideB2 (fun W h => urlText_any ho pa qu po hq W h hho hpa hqu)
  unfold textB
  clear htab
  generalize utxt ho pa qu po hq = T at *
  cases hh : urlQ ho pa qu po hq
  · rw [hh] at HU
    rw [if_neg (by simp)]
    clear hh
    go_enter Tryz.func139, Tryz.ntmps139
    go_wp2_with (go_at_call 188; refine (HU.out _ HT.out).mono ?_; rintro e w1 ⟨rfl, hb1⟩)
    go_ret
    exact ⟨rfl, below_then HB.out hb1⟩
  · rw [hh] at HU
    rw [if_pos rfl]
    clear hh
    go_enter Tryz.func139, Tryz.ntmps139
    go_wp2_with (first
      | (go_at_call 188; refine (HU.out _ HT.out).mono ?_; rintro e w1 ⟨rfl, hb1⟩; obtain ⟨p0, p1, p2, p3, p4⟩ := (A1.out.later hb1).u5)
      | (go_at_call 189; refine (HX.out _ (tab_later HT.out hb1)).mono ?_; rintro e w2 ⟨rfl, hb2⟩))
    go_ret
    exact ⟨rfl, below_then (below_then HB.out hb1) hb2⟩
end Go.Proofs.YthdgeepedofleaaGreatDoor
namespace Go.Proofs.YthdgeepedofleaaGreatDoor
set_option linter.unusedVariables false
set_option linter.unusedSimpArgs false
open Go.RowKit
def pieceQ (x : ByteArray) : Bool := !eqB x ⟨#[]⟩ && allB pc8 x
theorem hostQ_pieces {s : ByteArray} (h : s.size ≤ 60) : hostQ s = (splS 46 s).all pieceQ := by
  unfold hostQ
  rw [decide_eq_true h, Bool.true_and, hst_pieces]
  induction splS 46 s with
  | nil => rfl
  | cons x r ih =>
    rw [List.all_cons, List.any_cons, List.all_cons, ← ih]
    unfold pieceQ
    cases allB pc8 x <;> cases eqB x ⟨#[]⟩ <;> simp
theorem piece_empty {x : ByteArray} (h : x.size = 0) : pieceQ x = false := by
  have e : x = ⟨#[]⟩ := by
    apply bytes_ext
    exact List.eq_nil_of_length_eq_zero (by rw [len_data]; exact h)
  rw [e]; unfold pieceQ; rw [eqB_self]; rfl
theorem hostQ_empty {s : ByteArray} (h : s.size = 0) : hostQ s = false := by
  have e : s = ⟨#[]⟩ := by
    apply bytes_ext
    exact List.eq_nil_of_length_eq_zero (by rw [len_data]; exact h)
  rw [hostQ_pieces (by omega), e, (splS_none (c := 46) (s := ⟨#[]⟩) (idxS_miss (fun j hj => absurd hj (Nat.not_lt_zero j)))).2, List.all_cons, piece_empty rfl]
  rfl
theorem pieces_no {l : List ByteArray} {i : Nat} (hi : i < l.length) (h : pieceQ (l.getD i ⟨#[]⟩) = false) : l.all pieceQ = false := by
  rw [List.all_eq_false]
  refine ⟨l[i], List.getElem_mem hi, ?_⟩
  rw [List.getD, List.getElem?_eq_getElem hi] at h
  simpa using h
theorem pieces_yes {l : List ByteArray} (h : ∀ j, j < l.length → pieceQ (l.getD j ⟨#[]⟩) = true) : l.all pieceQ = true := by
  rw [List.all_eq_true]
  intro x hx
  obtain ⟨j, hj, rfl⟩ := List.mem_iff_getElem.1 hx
  have := h j hj
  rwa [List.getD, List.getElem?_eq_getElem hj] at this
theorem piece_no {x : ByteArray} {k : Nat} (hk : k < x.size) (h : pc8 (at8 x k) = false) : pieceQ x = false := by
  unfold pieceQ; rw [allB_no hk h, Bool.and_false]
theorem piece_yes {x : ByteArray} (h0 : x.size ≠ 0) (h : ∀ j, j < x.size → pc8 (at8 x j) = true) : pieceQ x = true := by
  unfold pieceQ
  have : eqB x ⟨#[]⟩ = false := by
    cases he : eqB x ⟨#[]⟩ with
    | false => rfl
    | true => exact absurd (by rw [eqB_iff.1 he]; rfl) h0
  rw [this, allB_yes h]; rfl
set_option maxRecDepth 100000 in
set_option maxHeartbeats 4000000 in
theorem l7host_any (s : ByteArray) (w : World) (hs : s.size ≤ maxLen) :
    Calls Tryz.prog 169 #[.string s] w fun e w' => e = .returned (.bool (hostQ s)) ∧ Below w.heap.size w w' := by
  have hs' := hs
  unfold maxLen at hs'
  by_cases h0 : s.size = 0
  · rw [hostQ_empty h0]
    have e0 : ((s.size : Int) == 0) = true := by rw [beq_iff_eq]; omega
    go_enter Tryz.func169, Tryz.ntmps169
    go_wp2
    go_ret
    exact ⟨rfl, Below.refl _ _⟩
  · have e0 : ((s.size : Int) == 0) = false := by rw [beq_eq_false_iff_ne]; omega
    by_cases h60 : (60 : Int) < (s.size : Int)
    · rw [show hostQ s = false by unfold hostQ; rw [decide_eq_false (by omega)]; rfl]
      go_enter Tryz.func169, Tryz.ntmps169
      go_wp2
      go_ret
      exact ⟨rfl, Below.refl _ _⟩
    · have HSP := hideB2 (fun W => l7split_any s 46 W (by omega))
      change Hid (∀ W, Calls _ _ #[_, .int .u8 46] W _) at HSP
      have hls := (splS_le 46 s).1
      have HMZ := hideB2 (fun x (h : x ∈ splS 46 s) => splS_mem h)
      generalize hR : hostQ s = R
      have HR := hideB2 (show R = (splS 46 s).all pieceQ by rw [← hR]; exact hostQ_pieces (by omega))
      clear hR
      generalize splS 46 s = L at *
      go_enter Tryz.func169, Tryz.ntmps169
      go_wp2_with fail
      refine (HSP.out _).mono ?_
      rintro e w1 ⟨v1, rfl, hbuf⟩
      have HB := hideB2 hbuf.below
      have hcells := fun (h : 0 < L.length) => hbuf.cells h
      obtain ⟨a, c0, rfl⟩ := hbuf.form
      have HC := hideB2 (show ∀ j, j < L.length → ∃ g, a = some ⟨g, 0, none⟩ ∧ w1.cell? ⟨g, j, none⟩ = some (.string (L.getD j ⟨#[]⟩)) from fun j hj => by
        obtain ⟨g, cap, e, _, hlt, hc⟩ := hcells (by omega)
        injection e with e1
        exact ⟨g, e1, hc j hj⟩)
      have HPN := hideB2 (fun i => pieces_no (l := L) (i := i))
      have HPY := hideB2 (pieces_yes (l := L))
      clear hcells hbuf
      generalize hn : L.length = n at *
      have HN := hideB2 hn
      clear hn
      go_wp2
      go_loop [4] (fun iv => ∃ i : Nat, i ≤ n ∧ iv = .int .i64 i ∧ ∀ j, j < i → pieceQ (L.getD j ⟨#[]⟩) = true) (fun iv => n - (intOf iv).toNat)
      case atStart => exact ⟨0, Nat.zero_le _, rfl, fun j hj => by omega⟩
      case round =>
        obtain ⟨i, hi, rfl, hall⟩ := hrel
        have HA := hideB2 hall
        clear hall
        by_cases hlt : i < n
        · obtain ⟨g, rfl, p0⟩ := HC.out i hlt
          have HXS := hideB2 (show (L.getD i ⟨#[]⟩).size ≤ s.size by
            have hh : i < L.length := by rw [HN.out]; exact hlt
            rw [List.getD, List.getElem?_eq_getElem hh]
            exact HMZ.out _ (List.getElem_mem hh))
          have HNO := hideB2 (fun (h : pieceQ (L.getD i ⟨#[]⟩) = false) => show R = false by rw [HR.out]; exact HPN.out i hlt h)
          have HST := hideB2 (fun (h : pieceQ (L.getD i ⟨#[]⟩) = true) => all_succ HA.out h)
          generalize L.getD i ⟨#[]⟩ = x at *
          have hxz : x.size ≤ 60 := by have := HXS.out; omega
          by_cases hx0 : x.size = 0
          · have hne := empty_of hx0
            have HF := hideB2 (HNO.out (piece_empty hx0))
            go_wp2
            go_ret
            exact ⟨ret_bool HF.out, HB.out⟩
          · have hne := nonempty_of hx0
            have HYES := hideB2 (piece_yes hx0)
            have HNOX := hideB2 (fun k => piece_no (x := x) (k := k))
            clear hx0
            go_wp2
            go_loop [5] (fun kv => ∃ k : Nat, k ≤ x.size ∧ kv = .int .i64 k ∧ ∀ j, j < k → pc8 (at8 x j) = true) (fun kv => x.size - (intOf kv).toNat)
            case atStart => exact ⟨0, Nat.zero_le _, rfl, fun j hj => by omega⟩
            case round =>
              obtain ⟨k, hk, rfl, hall⟩ := hrel
              have HP := hideB2 hall
              clear hall
              by_cases hkx : k < x.size
              · have hat : x[k] = at8 x k := at8_eq x k hkx
                have HAT := hideB2 (show pc8 (at8 x k) = pcP (x[k].toNat : Int) by rw [hat]; rfl)
                have HDG := hideB2 (fun W => l1digit_any (x[k].toNat : Int) W)
                clear hat
                by_cases a1 : (97 : Int) ≤ (x[k].toNat : Int)
                · by_cases a2 : (x[k].toNat : Int) ≤ 122
                  · have HQ := hideB2 (show pc8 (at8 x k) = true by rw [HAT.out]; unfold pcP; simp [a1, a2])
                    go_wp2
                    go_round
                    case rel => exact ⟨k + 1, by omega, by go_num, all_succ HP.out HQ.out⟩
                    case measure => simp [intOf]; omega
                  · have hd : digP (x[k].toNat : Int) = false := by unfold digP; rw [decide_eq_false (show ¬ (x[k].toNat : Int) ≤ 57 by omega), Bool.and_false]
                    have h45 : ((x[k].toNat : Int) != 45) = true := by rw [bne_iff_ne]; omega
                    have HF := hideB2 (HNO.out (HNOX.out k hkx (by rw [HAT.out]; unfold pcP; rw [hd, decide_eq_false a2, beq_eq_false_iff_ne.2 (show (x[k].toNat : Int) ≠ 45 by omega)]; simp)))
                    rw [hd] at HDG
                    clear hd
                    go_wp2_with (go_at_call 166; refine (HDG.out _).mono ?_; rintro e w' ⟨rfl, rfl⟩)
                    go_ret
                    exact ⟨ret_bool HF.out, HB.out⟩
                · cases hd : digP (x[k].toNat : Int)
                  · rw [hd] at HDG
                    cases h45 : ((x[k].toNat : Int) == 45)
                    · have h45' : ((x[k].toNat : Int) != 45) = true := by rw [bne, h45]; rfl
                      have HF := hideB2 (HNO.out (HNOX.out k hkx (by rw [HAT.out]; unfold pcP; rw [hd, decide_eq_false a1, h45]; simp)))
                      clear hd h45
                      go_wp2_with (go_at_call 166; refine (HDG.out _).mono ?_; rintro e w' ⟨rfl, rfl⟩)
                      go_ret
                      exact ⟨ret_bool HF.out, HB.out⟩
                    · have h45' : ((x[k].toNat : Int) != 45) = false := by rw [bne, h45]; rfl
                      have HQ := hideB2 (show pc8 (at8 x k) = true by rw [HAT.out]; unfold pcP; rw [h45]; simp)
                      clear hd h45
                      go_wp2_with (go_at_call 166; refine (HDG.out _).mono ?_; rintro e w' ⟨rfl, rfl⟩)
                      go_round
                      case rel => exact ⟨k + 1, by omega, by go_num, all_succ HP.out HQ.out⟩
                      case measure => simp [intOf]; omega
                  · rw [hd] at HDG
                    have HQ := hideB2 (show pc8 (at8 x k) = true by rw [HAT.out]; unfold pcP; rw [hd]; simp)
                    clear hd
                    go_wp2_with (go_at_call 166; refine (HDG.out _).mono ?_; rintro e w' ⟨rfl, rfl⟩)
                    go_round
                    case rel => exact ⟨k + 1, by omega, by go_num, all_succ HP.out HQ.out⟩
                    case measure => simp [intOf]; omega
              · have HT := hideB2 (HST.out (HYES.out (fun j hj => HP.out j (by omega))))
                go_wp2
                go_round
                case rel => exact ⟨i + 1, by omega, by go_num, HT.out⟩
                case measure => simp [intOf]; omega
        · have HF := hideB2 (show R = true by rw [HR.out]; exact HPY.out (fun j hj => HA.out j (by omega)))
          go_wp2
          go_ret
          exact ⟨ret_bool HF.out, HB.out⟩
end Go.Proofs.YthdgeepedofleaaGreatDoor
