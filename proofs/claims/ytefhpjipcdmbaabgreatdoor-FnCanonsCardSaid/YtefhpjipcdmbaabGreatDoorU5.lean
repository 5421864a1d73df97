/-
  Chapter 7: a text cut, and a path in its one form; the specification's side.
-/
import Derived.Test.YtefhpjipcdmbaabGreatDoorU4
import Derived.Test.YtefhpjipcdmbaabGreatDoorU3b
namespace Go.Proofs.YtefhpjipcdmbaabGreatDoor
set_option linter.unusedVariables false
set_option linter.unusedSimpArgs false
open Go.RowKit
theorem u8_beq (a b : UInt8) : ((a.toNat : Int) == (b.toNat : Int)) = (a == b) := by
  rw [Bool.eq_iff_iff, beq_iff_eq, beq_iff_eq]
  constructor
  · intro h; exact UInt8.toNat_inj.1 (by omega)
  · intro h; rw [h]
set_option maxRecDepth 100000 in
set_option maxHeartbeats 4000000 in
theorem l7split_any (s : ByteArray) (c : UInt8) (w : World) (hs : s.size ≤ 1048576) :
    Calls Tryz.prog 50 #[.string s, .int .u8 (c.toNat : Int)] w fun e w' => ∃ v, e = .returned v ∧ BufS w w' v (splS c s) := by
  have hsl := (splS_le c s).1
  generalize hR : splS c s = R at *
  have HR := hideB2 hR
  clear hR
  go_enter Tryz.func50, Tryz.ntmps50
  go_wp2
  go_loopw [5, 6, 7] (fun ov fv i wr => ∃ (k f : Nat) (o : List ByteArray), i = .int .i64 k ∧ fv = .int .i64 f ∧ BufS w wr ov o ∧ o.length ≤ s.size + 1 ∧ ((k ≤ s.size ∧ f ≤ k ∧ (∀ j, f ≤ j → j < k → at8 s j ≠ c) ∧ o ++ splS c (s.extract f s.size) = R) ∨ (k = s.size + 1 ∧ o = R))) (fun _ _ i _ => s.size + 1 - (intOf i).toNat)
  case atStart => exact ⟨0, 0, [], rfl, rfl, BufS.start w, by simp, .inl ⟨Nat.zero_le _, Nat.le_refl _, fun j _ hj => by omega, by rw [List.nil_append, ← HR.out]; congr 1; apply bytes_ext; rw [Lib.extract_data, List.drop_zero]; exact List.take_of_length_le (by rw [len_data]; omega)⟩⟩
  case round =>
    obtain ⟨k, f, o, rfl, rfl, hbuf, hol, hcase⟩ := hrel
    have HOL := hideB2 hol
    clear hol
    rcases hcase with ⟨hk, hf, hno, ho⟩ | ⟨rfl, rfl⟩
    · have HNO := hideB2 hno
      have HO := hideB2 ho
      clear hno ho
      have c1 : (0 : Int) ≤ (f : Int) := by omega
      have c2 : (f : Int) ≤ (k : Int) := by omega
      have c3 : (k : Int) ≤ (s.size : Int) := by omega
      have hol2 : o.length ≤ 1073741824 := by have := HOL.out; omega
      by_cases hlt : k < s.size
      · have hkeq : ((k : Int) == (s.size : Int)) = false := by rw [beq_eq_false_iff_ne]; omega
        have hat : s[k] = at8 s k := at8_eq s k hlt
        have hcc : ((s[k].toNat : Int) == (c.toNat : Int)) = (at8 s k == c) := by rw [hat]; exact u8_beq _ _
        clear hat
        cases hq : (at8 s k == c)
        · rw [hq] at hcc
          have HQ := hideB2 (show at8 s k ≠ c from beq_eq_false_iff_ne.1 hq)
          have HBF := hideB2 hbuf
          clear hq hbuf
          go_wp2
          go_roundw
          case rel => exact ⟨k + 1, f, o, by go_num, rfl, HBF.out, HOL.out, .inl ⟨by omega, by omega, fun j h1 h2 => by
            by_cases e : j = k
            · subst e; exact HQ.out
            · exact HNO.out j h1 (by omega), HO.out⟩⟩
          case measure => simp [intOf]; omega
        · rw [hq] at hcc
          have hstep := splS_step (c := c) hf hlt (beq_iff_eq.1 hq) HNO.out
          have HN := hideB2 (show (o ++ [s.extract f k]) ++ splS c (s.extract (k + 1) s.size) = R by rw [List.append_assoc, List.singleton_append, ← hstep]; exact HO.out)
          have HL := hideB2 (show (o ++ [s.extract f k]).length ≤ s.size + 1 by
            have h1 := congrArg List.length HN.out
            rw [List.length_append] at h1
            omega)
          clear hq hstep
          go_wp2_with (at_builtin; refine wp_sapp rfl (.tmp 25) (.tmp 30) rfl _ _ rfl hbuf (s.extract f k) rfl hol2 ?_; intro v2 W2 hbuf2)
          go_roundw
          case rel => exact ⟨k + 1, k + 1, _, by go_num, by go_num, hbuf2, HL.out, .inl ⟨by omega, Nat.le_refl _, fun j h1 h2 => by omega, HN.out⟩⟩
          case measure => simp [intOf]; omega
      · obtain rfl : k = s.size := by omega
        have hkeq : ((s.size : Int) == (s.size : Int)) = true := by simp
        have hend := splS_end (c := c) HNO.out
        have HN := hideB2 (show o ++ [s.extract f s.size] = R by rw [← hend]; exact HO.out)
        have HL := hideB2 (show (o ++ [s.extract f s.size]).length ≤ s.size + 1 by rw [HN.out]; omega)
        clear hend
        go_wp2_with (at_builtin; refine wp_sapp rfl (.tmp 25) (.tmp 30) rfl _ _ rfl hbuf (s.extract f s.size) rfl hol2 ?_; intro v2 W2 hbuf2)
        go_roundw
        case rel => exact ⟨s.size + 1, s.size + 1, _, by go_num, by go_num, hbuf2, HL.out, .inr ⟨rfl, HN.out⟩⟩
        case measure => simp [intOf]
    · have c3 : ¬ ((s.size : Int) + 1 ≤ (s.size : Int)) := by omega
      have HBF := hideB2 hbuf
      clear hbuf
      go_wp2
      go_ret
      exact ⟨_, rfl, HBF.out⟩
/-- What is kept when k pieces have been gone through, the end looked at in the last one's round. -/
def midL (L : List ByteArray) (k : Nat) : List ByteArray := if k = L.length then keptL L else keepL (L.take k)
theorem midL_zero {L : List ByteArray} (h : 0 < L.length) : midL L 0 = [] := by unfold midL; rw [if_neg (show ¬ 0 = L.length by omega)]; rfl
theorem midL_next {L : List ByteArray} {k : Nat} (h : k + 1 < L.length) : midL L (k + 1) = keepS (midL L k) (L.getD k ⟨#[]⟩) := by
  unfold midL
  rw [if_neg (show ¬ k + 1 = L.length by omega), if_neg (show ¬ k = L.length by omega), keepL_take (by omega), List.getD, List.getElem?_eq_getElem (by omega)]
  rfl
theorem midL_last {L : List ByteArray} {k : Nat} (h : k + 1 = L.length) : midL L (k + 1) = if dotQ (L.getD k ⟨#[]⟩) = true then keepS (midL L k) (L.getD k ⟨#[]⟩) ++ [⟨#[]⟩] else keepS (midL L k) (L.getD k ⟨#[]⟩) := by
  have hk : k < L.length := by omega
  have e : L.take (k + 1) = L := List.take_of_length_le (by omega)
  have h1 := keepL_take hk
  have h2 := lastDot_take hk
  rw [e] at h1 h2
  unfold midL
  rw [if_pos h, if_neg (show ¬ k = L.length by omega), List.getD, List.getElem?_eq_getElem hk]
  unfold keptL
  rw [h1, h2]
  rfl
theorem midL_len (L : List ByteArray) (k : Nat) : (midL L k).length ≤ L.length + 1 := by
  unfold midL
  split
  · exact (keptL_le L).1
  · have h := (keepL_le (L.take k)).1
    rw [List.length_take] at h; omega
theorem evB_slash {s : ByteArray} (h : 0 < s.size) (h47 : at8 s 0 = 47) : (evB s).extract 1 (evB s).size = evB (s.extract 1 s.size) ∧ 1 ≤ (evB s).size := by
  have e := drop_at8 (i := 0) h
  rw [List.drop_zero, h47] at e
  have e1 : evL s.data.toList = 47 :: evL (s.data.toList.drop 1) := by
    conv => lhs; rw [e]
    refine evL_miss ?_
    rintro ⟨hh, _⟩
    cases hh
  have e2 : (s.extract 1 s.size).data.toList = s.data.toList.drop 1 := by
    rw [Lib.extract_data]
    exact List.take_of_length_le (by rw [List.length_drop, len_data]; omega)
  have e3 : (evB s).data.toList = 47 :: evL (s.data.toList.drop 1) := e1
  have e4 : (evB s).size = (evL (s.data.toList.drop 1)).length + 1 := by
    rw [← len_data, e3, List.length_cons]
  refine ⟨?_, by omega⟩
  apply bytes_ext
  rw [Lib.extract_data, e3, List.drop_succ_cons, List.drop_zero, e4]
  show _ = evL (s.extract 1 s.size).data.toList
  rw [e2]
  exact List.take_of_length_le (by omega)
def tailB (l : List ByteArray) : ByteArray := ⟨(tailS 47 l).toArray⟩
theorem tailB_next (l : List ByteArray) (k : Nat) (h : k < l.length) : tailB (l.take k) ++ (⟨#[47]⟩ : ByteArray) ++ l.getD k ⟨#[]⟩ = tailB (l.take (k + 1)) := by
  apply bytes_ext
  rw [List.take_succ_eq_append_getElem h, List.getD, List.getElem?_eq_getElem h]
  unfold tailB
  rw [tailS_snoc]
  simp [Go.Joins.data_append]
theorem tailS_take (c : UInt8) (l : List ByteArray) (k : Nat) : (tailS c (l.take k)).length ≤ (tailS c l).length := by
  conv => rhs; rw [← List.take_append_drop k l]
  unfold tailS Lib.joinTail
  rw [List.map_append, List.map_append, List.flatten_append, List.length_append]
  omega
theorem tailB_size (l : List ByteArray) (k : Nat) : (tailB (l.take k)).size ≤ l.length + sumS l := by
  have h := tailS_take 47 l k
  have h2 := tailS_len 47 l
  show (tailS 47 (l.take k)).toArray.size ≤ _
  rw [List.size_toArray]
  omega
theorem clnL_tail (l : List ByteArray) : clnL l = if (tailB l).size = 0 then ⟨#[47]⟩ else tailB l := by
  unfold clnL
  have hz : (tailB l).size = l.length + sumS l := by
    show (tailS 47 l).toArray.size = _
    rw [← tailS_len 47 l]; simp
  cases l with
  | nil => rfl
  | cons x r => rw [if_neg (by simp), if_neg (by rw [hz]; simp)]; rfl
theorem dd_d1 : eqB dd d1 = false := by
  unfold eqB; rw [ByteArray.toList_eq, ByteArray.toList_eq]; rfl
theorem nof_no {s : ByteArray} {k : Nat} (hk : k < s.size) (h : at8 s k = 35 ∨ at8 s k = 63) : pthQ s = false :=
  pthQ_no3 (allB_no hk (by rcases h with h | h <;> rw [h] <;> rfl))
theorem vis_size {s : ByteArray} (h : (decide (0 < (s.size : Int)) && allB vis8 s) = true) (hz : s.size ≤ 200) : targQ s = true := by
  rw [Bool.and_eq_true, decide_eq_true_eq] at h
  exact targQ_iff.2 ⟨by omega, hz, h.2⟩
theorem vis_no {s : ByteArray} (h : (decide (0 < (s.size : Int)) && allB vis8 s) = false) : targQ s = false := by
  cases ht : targQ s with
  | false => rfl
  | true =>
    obtain ⟨h1, _, h3⟩ := targQ_iff.1 ht
    rw [decide_eq_true (by omega), h3] at h
    cases h
set_option maxRecDepth 100000 in
set_option maxHeartbeats 8000000 in
theorem sCleanPath_any (s : ByteArray) (w : World) (hs : s.size ≤ maxLen) :
    Calls Tryz.prog 15 #[.string s] w fun e w' => e = .returned (.string (clnB s)) ∧ Below w.heap.size w w' := by
  have hs' := hs
  unfold maxLen at hs'
  by_cases h0 : s.size = 0
  · have hF := clnB_no (s := s) (pthQ_no2 (by cases ht : targQ s with | false => rfl | true => have := (targQ_iff.1 ht).1; omega))
    rw [hF]
    have e0 : ((s.size : Int) == 0) = true := by rw [beq_iff_eq]; omega
    clear hF
    go_enter Tryz.func15, Tryz.ntmps15
    go_wp2
    go_ret
    exact ⟨rfl, Below.refl _ _⟩
  · have e0 : ((s.size : Int) == 0) = false := by rw [beq_eq_false_iff_ne]; omega
    by_cases h200 : s.size ≤ 200
    · have e1 : ¬ ((200 : Int) < (s.size : Int)) := by omega
      have hat : s[0] = at8 s 0 := at8_eq s 0 (by omega)
      by_cases h47 : at8 s 0 = 47
      · have e2 : ((s[0].toNat : Int) != 47) = false := by rw [hat, h47]; rfl
        have HV := hideB2 (fun W => l6visible_any s W hs)
        cases hv : (decide (0 < (s.size : Int)) && allB vis8 s)
        · rw [hv] at HV
          rw [clnB_no (pthQ_no2 (vis_no hv))]
          clear hv hat h47
          go_enter Tryz.func15, Tryz.ntmps15
          go_wp2_with (go_at_call 25; refine (HV.out _).mono ?_; rintro e w' ⟨rfl, rfl⟩)
          go_ret
          exact ⟨rfl, Below.refl _ _⟩
        · rw [hv] at HV
          have HT := hideB2 (vis_size hv h200)
          have HS1 := hideB2 (show slash1 s = true by unfold slash1; rw [decide_eq_true (by omega), beq_iff_eq.2 h47]; rfl)
          obtain ⟨g1, g2⟩ := evB_slash (s := s) (by omega) h47
          have HEV := hideB2 (fun W => l7percent_any s W (by omega))
          have hez := evB_size s
          clear hv hat h47
          generalize hR : clnB s = R
          have HR := hideB2 hR
          clear hR
          go_enter Tryz.func15, Tryz.ntmps15
          go_wp2_with (go_at_call 25; refine (HV.out _).mono ?_; rintro e w' ⟨rfl, rfl⟩)
          go_loop [3] (fun i => ∃ k : Nat, k ≤ s.size ∧ i = .int .i64 k ∧ ∀ j, j < k → nof8 (at8 s j) = true) (fun i => s.size - (intOf i).toNat)
          case atStart => exact ⟨0, Nat.zero_le _, rfl, fun j hj => by omega⟩
          case round =>
            obtain ⟨k, hk, rfl, hall⟩ := hrel
            have Hall := hideB2 hall
            clear hall
            by_cases hlt : k < s.size
            · have hat : s[k] = at8 s k := at8_eq s k hlt
              have q35 : ((s[k].toNat : Int) == 35) = (at8 s k == 35) := by rw [hat]; exact u8_beq _ 35
              have q63 : ((s[k].toNat : Int) == 63) = (at8 s k == 63) := by rw [hat]; exact u8_beq _ 63
              clear hat
              cases h35 : (at8 s k == 35)
              · rw [h35] at q35
                cases h63 : (at8 s k == 63)
                · rw [h63] at q63
                  have HN := hideB2 (show nof8 (at8 s k) = true by unfold nof8; rw [bne, bne, h35, h63]; rfl)
                  clear h35 h63
                  go_wp2
                  go_round
                  case rel => exact ⟨k + 1, by omega, by go_num, all_succ Hall.out HN.out⟩
                  case measure => simp [intOf]; omega
                · rw [h63] at q63
                  have HF := hideB2 (show R = ⟨#[]⟩ by rw [← HR.out]; exact clnB_no (nof_no hlt (.inr (beq_iff_eq.1 h63))))
                  clear h35 h63
                  go_wp2
                  go_ret
                  exact ⟨ret_str HF.out, Below.refl _ _⟩
              · rw [h35] at q35
                have HF := hideB2 (show R = ⟨#[]⟩ by rw [← HR.out]; exact clnB_no (nof_no hlt (.inl (beq_iff_eq.1 h35))))
                clear h35
                go_wp2
                go_ret
                exact ⟨ret_str HF.out, Below.refl _ _⟩
            · have hn := allB_yes (p := nof8) (s := s) (fun j hj => Hall.out j (by omega))
              have hcl := clnB_yes (pthQ_yes HS1.out HT.out hn)
              rw [← g1] at hcl
              have HSP := hideB2 (fun W => l7split_any ((evB s).extract 1 (evB s).size) 47 W (by rw [ByteArray.size_extract]; omega))
              have hls := splS_le 47 ((evB s).extract 1 (evB s).size)
              have hne := splS_ne 47 ((evB s).extract 1 (evB s).size)
              have hxz : ((evB s).extract 1 (evB s).size).size ≤ 200 := by rw [ByteArray.size_extract]; omega
              have HCL := hideB2 (HR.out.symm.trans hcl)
              change Hid (∀ W, Calls _ _ #[_, .int .u8 47] W _) at HSP
              clear hn hcl HR HS1 HT Hall g1
              generalize hyy : evB s = y at *
              have c1 : (1 : Int) ≤ (y.size : Int) := by omega
              generalize hxx : y.extract 1 y.size = x at *
              generalize splS 47 x = L at *
              have hnL : 0 < L.length := List.length_pos_iff.2 hne
              clear hne
              go_wp2_with fail
              refine (HEV.out _).mono ?_
              rintro e w1 ⟨rfl, hb1⟩
              go_wp2_with fail
              refine (HSP.out _).mono ?_
              rintro e w2 ⟨v2, rfl, hbuf2⟩
              have hB2 := below_then hb1 hbuf2.below
              have hcells := fun (h : 0 < L.length) => hbuf2.cells h
              obtain ⟨a, c0, rfl⟩ := hbuf2.form
              have HC := hideB2 (show ∀ j, j < L.length → ∃ g, a = some ⟨g, 0, none⟩ ∧ g < w2.heap.size ∧ w2.cell? ⟨g, j, none⟩ = some (.string (L.getD j ⟨#[]⟩)) from fun j hj => by
                obtain ⟨g, cap, e, _, hlt, hc⟩ := hcells (by omega)
                injection e with e1
                exact ⟨g, e1, hlt, hc j hj⟩)
              have HB2 := hideB2 hB2
              have HKL := hideB2 (midL_len L)
              have HKE := hideB2 (show midL L L.length = keptL L by unfold midL; rw [if_pos rfl])
              have HKZ := hideB2 (keptL_le L)
              have HM0 := hideB2 (midL_zero hnL)
              clear hcells hbuf2 hB2 hb1
              generalize hn : L.length = n at *
              have HN := hideB2 hn
              have hn200 : n ≤ 201 := by omega
              clear hn
              go_wp2
              go_loopw [5, 6] (fun kv i wr => ∃ k : Nat, k ≤ n ∧ i = .int .i64 k ∧ BufS w2 wr kv (midL L k)) (fun _ i _ => n - (intOf i).toNat)
              case atStart => exact ⟨0, Nat.zero_le _, rfl, by rw [HM0.out]; exact BufS.start w2⟩
              case round =>
                obtain ⟨k, hk, rfl, hbuf⟩ := hrel
                have hlen := HKL.out k
                by_cases hlt : k < n
                · obtain ⟨g, rfl, hgl, hcell⟩ := HC.out k hlt
                  have p0 : wr.cell? ⟨g, k, none⟩ = some (.string (L.getD k ⟨#[]⟩)) := (hbuf.below.cell (p := ⟨g, k, none⟩) hgl).trans hcell
                  have HX1 := hideB2 (fun (h : k + 1 ≠ n) => midL_next (L := L) (k := k) (by rw [HN.out]; omega))
                  have HX2 := hideB2 (fun (h : k + 1 = n) => midL_last (L := L) (k := k) (by rw [HN.out]; omega))
                  clear hcell
                  generalize L.getD k ⟨#[]⟩ = x at *
                  generalize midL L k = K at *
                  have e1 : IntKind.i64.wrap ((k : Int) + 1) = (k : Int) + 1 := by rw [IntKind.wrap_i64]; omega
                  cases hdd : eqB x dd
                  · cases hd1 : eqB x d1
                    · obtain ⟨k1, k2⟩ := keepS_no (k := K) hdd hd1
                      have HT := hideB2 (show midL L (k + 1) = K ++ [x] by
                        by_cases hlast : k + 1 = n
                        · rw [HX2.out hlast, if_neg (by rw [k2]; simp), k1]
                        · rw [HX1.out hlast, k1])
                      rw [← eqB_dd] at hdd
                      rw [← eqB_d1] at hd1
                      clear k1 k2 HX1 HX2
                      go_wp2_with (at_builtin; refine wp_sapp rfl (.tmp 83) (.tmp 88) rfl _ _ rfl hbuf x rfl (by omega) ?_; intro v5 W5 hbuf5)
                      go_roundw
                      case rel => exact ⟨k + 1, by omega, by go_num, by rw [HT.out]; exact hbuf5⟩
                      case measure => simp [intOf]; omega
                    · obtain ⟨k1, k2⟩ := keepS_d1 (k := K) hdd hd1
                      have HK2 := hideB2 k1
                      have HD2 := hideB2 k2
                      have HBF := hideB2 hbuf
                      rw [← eqB_dd] at hdd
                      rw [← eqB_d1] at hd1
                      clear k1 k2 hbuf
                      by_cases hlast : k + 1 = n
                      · have hle : ((k : Int) + 1 == (n : Int)) = true := by rw [beq_iff_eq]; omega
                        have HT := hideB2 ((HX2.out hlast).trans (if_pos HD2.out))
                        rw [HK2.out] at HT
                        have hbq := HBF.out
                        clear HX1 HX2
                        go_wp2_with (at_builtin; refine wp_sapp rfl (.tmp 95) (.tmp 96) rfl _ _ rfl hbq ⟨#[]⟩ rfl (by omega) ?_; intro v5 W5 hbuf5)
                        go_roundw
                        case rel => exact ⟨k + 1, by omega, by go_num, by rw [HT.out]; exact hbuf5⟩
                        case measure => simp [intOf]; omega
                      · have hle : ((k : Int) + 1 == (n : Int)) = false := by rw [beq_eq_false_iff_ne]; omega
                        have HT := hideB2 (HX1.out hlast)
                        rw [HK2.out] at HT
                        clear HX1 HX2
                        go_wp2
                        go_roundw
                        case rel => exact ⟨k + 1, by omega, by go_num, by rw [HT.out]; exact HBF.out⟩
                        case measure => simp [intOf]; omega
                  · obtain ⟨k1, k2⟩ := keepS_dd (k := K) hdd
                    have hd1 : eqB x d1 = false := by
                      have := eqB_iff.1 hdd
                      subst this
                      exact dd_d1
                    have HK2 := hideB2 k1
                    have HD2 := hideB2 k2
                    rw [← eqB_dd] at hdd
                    rw [← eqB_d1] at hd1
                    clear k1 k2
                    by_cases hq1 : 1 ≤ K.length
                    · rcases hbuf.own.2 with ⟨rfl, h00⟩ | ⟨g1, cap1, _, rfl, _, _, hcap, hmx, _⟩
                      · omega
                      · have HBF := hideB2 (hbuf.shrink (K.length - 1) (by omega))
                        have hq2 : (K.take (K.length - 1)).length ≤ 202 := by rw [List.length_take]; omega
                        clear hbuf
                        generalize hK2 : K.take (K.length - 1) = K2 at *
                        generalize K.length = q1 at *
                        unfold maxLen at hmx
                        have e2 : IntKind.i64.wrap ((q1 : Int) - 1) = ((q1 - 1 : Nat) : Int) := by rw [IntKind.wrap_i64]; omega
                        have e3 : ((q1 - 1 : Nat) : Int) ≤ (cap1 : Int) := by omega
                        have e4 : (0 : Int) < (q1 : Int) := by omega
                        generalize q1 - 1 = m at *
                        by_cases hlast : k + 1 = n
                        · have hle : ((k : Int) + 1 == (n : Int)) = true := by rw [beq_iff_eq]; omega
                          have HT := hideB2 ((HX2.out hlast).trans (if_pos HD2.out))
                          rw [HK2.out] at HT
                          have hbq := HBF.out
                          clear HX1 HX2
                          go_wp2_with (at_builtin; refine wp_sapp rfl (.tmp 95) (.tmp 96) rfl _ _ rfl hbq ⟨#[]⟩ rfl (by omega) ?_; intro v5 W5 hbuf5)
                          go_roundw
                          case rel => exact ⟨k + 1, by omega, by go_num, by rw [HT.out]; exact hbuf5⟩
                          case measure => simp [intOf]; omega
                        · have hle : ((k : Int) + 1 == (n : Int)) = false := by rw [beq_eq_false_iff_ne]; omega
                          have HT := hideB2 (HX1.out hlast)
                          rw [HK2.out] at HT
                          clear HX1 HX2
                          go_wp2
                          go_roundw
                          case rel => exact ⟨k + 1, by omega, by go_num, by rw [HT.out]; exact HBF.out⟩
                          case measure => simp [intOf]; omega
                    · have hK0 : K = [] := List.eq_nil_of_length_eq_zero (by omega)
                      subst hK0
                      obtain ⟨a1, c1', rfl⟩ := hbuf.form
                      have HBF := hideB2 hbuf
                      clear hbuf
                      by_cases hlast : k + 1 = n
                      · have hle : ((k : Int) + 1 == (n : Int)) = true := by rw [beq_iff_eq]; omega
                        have HT := hideB2 ((HX2.out hlast).trans (if_pos HD2.out))
                        rw [HK2.out] at HT
                        have hbq := HBF.out
                        clear HX1 HX2
                        go_wp2_with (at_builtin; refine wp_sapp rfl (.tmp 95) (.tmp 96) rfl _ _ rfl hbq ⟨#[]⟩ rfl (by omega) ?_; intro v5 W5 hbuf5)
                        go_roundw
                        case rel => exact ⟨k + 1, by omega, by go_num, by rw [HT.out]; exact hbuf5⟩
                        case measure => simp [intOf]; omega
                      · have hle : ((k : Int) + 1 == (n : Int)) = false := by rw [beq_eq_false_iff_ne]; omega
                        have HT := hideB2 (HX1.out hlast)
                        rw [HK2.out] at HT
                        clear HX1 HX2
                        go_wp2
                        go_roundw
                        case rel => exact ⟨k + 1, by omega, by go_num, by rw [HT.out]; exact HBF.out⟩
                        case measure => simp [intOf]; omega
                · obtain rfl : k = n := by omega
                  rw [HKE.out] at hbuf hlen
                  have hkz := HKZ.out
                  generalize hKK : keptL L = K at *
                  have hkc := fun (h : 0 < K.length) => hbuf.cells h
                  obtain ⟨a1, c1', rfl⟩ := hbuf.form
                  have HCK := hideB2 (show ∀ j, j < K.length → ∃ g, a1 = some ⟨g, 0, none⟩ ∧ wr.cell? ⟨g, j, none⟩ = some (.string (K.getD j ⟨#[]⟩)) from fun j hj => by
                    obtain ⟨g, cap, e, _, _, hc⟩ := hkc (by omega)
                    injection e with e1
                    exact ⟨g, e1, hc j hj⟩)
                  have HB := hideB2 (below_then HB2.out hbuf.below)
                  have HCL2 := hideB2 (HCL.out.trans (clnL_tail K))
                  clear hkc hbuf HKL HKE HKZ HM0 HC
                  generalize hq : K.length = q at *
                  have HQ := hideB2 hq
                  clear hq
                  have hsum : sumS K ≤ 200 := by omega
                  go_wp2
                  go_loop [8, 9] (fun sv i => ∃ k : Nat, k ≤ q ∧ i = .int .i64 k ∧ sv = .string (tailB (K.take k))) (fun _ i => q - (intOf i).toNat)
                  case atStart => exact ⟨0, Nat.zero_le _, rfl, rfl⟩
                  case round =>
                    obtain ⟨k2, hk2, rfl, rfl⟩ := hrel
                    by_cases hlt2 : k2 < q
                    · obtain ⟨g, rfl, p0⟩ := HCK.out k2 hlt2
                      have HNX := hideB2 (tailB_next K k2 (by rw [HQ.out]; exact hlt2))
                      have hz1 := tailB_size K k2
                      have hz2 : (K.getD k2 ⟨#[]⟩).size ≤ sumS K := by
                        have h1 : k2 < K.length := by rw [HQ.out]; exact hlt2
                        rw [List.getD, List.getElem?_eq_getElem h1]
                        exact sumS_mem (List.getElem_mem h1)
                      rw [HQ.out] at hz1
                      generalize K.getD k2 ⟨#[]⟩ = x at *
                      generalize tailB (K.take k2) = y at *
                      go_wp2
                      go_round
                      case rel => exact ⟨k2 + 1, by omega, by go_num, by rw [← HNX.out]⟩
                      case measure => simp [intOf]; omega
                    · obtain rfl : k2 = q := by omega
                      have HE := hideB2 (show K.take k2 = K from List.take_of_length_le (by rw [HQ.out]; exact Nat.le_refl _))
                      rw [HE.out]
                      clear HE
                      by_cases hz : (tailB K).size = 0
                      · have hne := empty_of hz
                        have HF := hideB2 (HCL2.out.trans (if_pos hz))
                        clear hz
                        generalize tailB K = y at *
                        go_wp2
                        go_ret
                        exact ⟨ret_str HF.out, HB.out⟩
                      · have hne := nonempty_of hz
                        have HF := hideB2 (HCL2.out.trans (if_neg hz))
                        clear hz
                        generalize tailB K = y at *
                        go_wp2
                        go_ret
                        exact ⟨ret_str HF.out, HB.out⟩
      · have e2 : ((s[0].toNat : Int) != 47) = true := by
          rw [hat, bne_iff_ne]
          intro hh
          exact h47 (UInt8.toNat_inj.1 (by have : (at8 s 0).toNat = 47 := by omega
                                           rw [this]; rfl))
        rw [clnB_no (pthQ_no1 (by unfold slash1; rw [beq_eq_false_iff_ne.2 h47, Bool.and_false]))]
        clear hat h47
        go_enter Tryz.func15, Tryz.ntmps15
        go_wp2
        go_ret
        exact ⟨rfl, Below.refl _ _⟩
    · have e1 : (200 : Int) < (s.size : Int) := by omega
      rw [clnB_no (pthQ_no2 (by cases ht : targQ s with | false => rfl | true => have := (targQ_iff.1 ht).2.1; omega))]
      go_enter Tryz.func15, Tryz.ntmps15
      go_wp2
      go_ret
      exact ⟨rfl, Below.refl _ _⟩
end Go.Proofs.YtefhpjipcdmbaabGreatDoor
