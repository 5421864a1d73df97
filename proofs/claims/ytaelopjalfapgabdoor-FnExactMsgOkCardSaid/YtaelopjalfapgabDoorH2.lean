/-
  Chapter 6: a message written; the program's side.
-/
import Derived.Test.YtaelopjalfapgabDoorH1
import Derived.Deep.DeepCutAuto
namespace Go.Proofs.YtaelopjalfapgabDoor
set_option linter.unusedVariables false
set_option linter.unusedSimpArgs false
open Go.RowKit
abbrev Tab10 (w : World) : Prop := Lib.TabIs Tryd.prog w "internal/strconv.uint64pow10" .u64 Lib.pow10Tab
theorem unfr_next (l : List Fd) (k : Nat) (h : k < l.length) : unfrL (l.take (k + 1)) = unfrL (l.take k) ++ (if frmN (fdAt l k).1 = true then [] else [fdAt l k]) := by
  unfold unfrL
  rw [keepF_next l _ k h]
  cases frmN (fdAt l k).1 <;> simp
theorem eqB_cl {s : ByteArray} : eqB s clN = (s.toList == [99, 111, 110, 116, 101, 110, 116, 45, 108, 101, 110, 103, 116, 104]) := by unfold eqB; rw [ByteArray.toList_eq clN]; rfl
theorem eqB_te {s : ByteArray} : eqB s teN = (s.toList == [116, 114, 97, 110, 115, 102, 101, 114, 45, 101, 110, 99, 111, 100, 105, 110, 103]) := by unfold eqB; rw [ByteArray.toList_eq teN]; rfl
theorem eqB_tr {s : ByteArray} : eqB s trN = (s.toList == [116, 114, 97, 105, 108, 101, 114]) := by unfold eqB; rw [ByteArray.toList_eq trN]; rfl
theorem frmN_eq (d : ByteArray) : frmN d = ((foldB d).toList == [99, 111, 110, 116, 101, 110, 116, 45, 108, 101, 110, 103, 116, 104] || (foldB d).toList == [116, 114, 97, 110, 115, 102, 101, 114, 45, 101, 110, 99, 111, 100, 105, 110, 103] || (foldB d).toList == [116, 114, 97, 105, 108, 101, 114]) := by
  unfold frmN; rw [eqB_cl, eqB_te, eqB_tr]
set_option maxHeartbeats 4000000 in
theorem unframed_any (v : Value) (l : List Fd) (w : World) (hv : SlF w v l) (hl : l.length ≤ 20) (hn : ∀ j, j < l.length → (fdAt l j).1.size ≤ 40) :
    Calls Tryd.prog 51 #[v] w fun e w' => ∃ v', e = .returned v' ∧ BufF w w' v' (unfrL l) := by
  obtain ⟨a, c0, rfl⟩ := hv.form
  have HV := hideB2 hv
  have HNM := hideB2 hn
  clear hv hn
  generalize hm : l.length = m at *
  have HM := hideB2 hm
  clear hm
  go_enter Tryd.func51, Tryd.ntmps51
  go_wp2
  go_loopw [3, 8] (fun o i wr => ∃ k : Nat, k ≤ m ∧ i = .int .i64 k ∧ BufF w wr o (unfrL (l.take k))) (fun _ i _ => m - (intOf i).toNat)
  case atStart => exact ⟨0, Nat.zero_le _, rfl, BufF.start w⟩
  case round =>
    obtain ⟨k, hk, rfl, hbuf⟩ := hrel
    by_cases hlt : k < m
    · have hklt : k < l.length := by rw [HM.out]; exact hlt
      obtain ⟨b, rfl, hr⟩ := HV.out.row (by omega)
      have p0 := (hr.later hbuf.below hr.lt).dat k hklt
      have p1 := (hr.later hbuf.below hr.lt).saf k hklt
      have hsz := HNM.out k hlt
      have HNX := hideB2 (unfr_next l k hklt)
      have hvl : (unfrL (l.take k)).length ≤ 20 := by
        have := List.length_filter_le (fun x : Fd => !frmN x.1) (l.take k)
        rw [List.length_take] at this
        unfold unfrL
        omega
      have HVL := hideB2 hvl
      clear hr hvl
      generalize fdAt l k = x at *
      obtain ⟨d, s⟩ := x
      simp only at p0 p1 hsz HNX
      have hd : d.size ≤ maxLen := by unfold maxLen; omega
      have HFold := hideB2 (fun W => Fold_any d W hd)
      have A1 := hideB2 (Blk.new wr #[.string d, .string s] 49)
      have Bf := hideB2 (hbuf.alloc (.cells #[.string d, .string s] 49))
      clear hsz hd hklt hbuf
      generalize unfrL (l.take k) = L at *
      rw [frmN_eq] at HNX
      generalize foldB d = F at *
      cases h1 : (F.toList == [99, 111, 110, 116, 101, 110, 116, 45, 108, 101, 110, 103, 116, 104])
      · cases h2 : (F.toList == [116, 114, 97, 110, 115, 102, 101, 114, 45, 101, 110, 99, 111, 100, 105, 110, 103])
        · cases h3 : (F.toList == [116, 114, 97, 105, 108, 101, 114])
          · rw [h1, h2, h3] at HNX
            go_wp2_with (first | (go_at_call 73; refine (HFold.out _).mono ?_; rintro e w3 ⟨rfl, hb3⟩; obtain ⟨q0, q1⟩ := (A1.out.later hb3).c2; have hbuf3 := Bf.out.later hb3) | (at_builtin; refine wp_fapp rfl (.tmp 15) (.tmp 17) rfl _ _ rfl hbuf3 d s rfl (by have := HVL.out; omega) ?_; intro v2 W2 hbuf4 hgrow4))
            refine ⟨⟨k + 1, by omega, by go_num, ?_⟩, by simp [intOf]; omega⟩
            rw [HNX.out]
            exact hbuf4
          · rw [h1, h2, h3] at HNX
            go_wp2_with (first | (go_at_call 73; refine (HFold.out _).mono ?_; rintro e w3 ⟨rfl, hb3⟩))
            refine ⟨⟨k + 1, by omega, by go_num, ?_⟩, by simp [intOf]; omega⟩
            rw [HNX.out]
            have := Bf.out.later hb3
            simpa using this
        · rw [h1, h2] at HNX
          go_wp2_with (first | (go_at_call 73; refine (HFold.out _).mono ?_; rintro e w3 ⟨rfl, hb3⟩))
          refine ⟨⟨k + 1, by omega, by go_num, ?_⟩, by simp [intOf]; omega⟩
          rw [HNX.out]
          have := Bf.out.later hb3
          simpa using this
      · rw [h1] at HNX
        go_wp2_with (first | (go_at_call 73; refine (HFold.out _).mono ?_; rintro e w3 ⟨rfl, hb3⟩))
        refine ⟨⟨k + 1, by omega, by go_num, ?_⟩, by simp [intOf]; omega⟩
        rw [HNX.out]
        have := Bf.out.later hb3
        simpa using this
    · obtain rfl : k = m := by omega
      have HE := hideB2 (show unfrL (l.take k) = unfrL l by rw [List.take_of_length_le (by rw [HM.out]; exact Nat.le_refl _)])
      rw [HE.out] at hbuf
      clear HE
      go_wp2
      go_ret
      exact ⟨_, rfl, hbuf⟩
theorem ownQ_no1 {l : List Fd} (h : fieldsQ l = false) : ownQ l = false := by unfold ownQ; rw [h]; rfl
theorem ownQ_no2 {l : List Fd} (h : ¬ (l.length : Int) < 20) : ownQ l = false := by
  unfold ownQ; rw [show decide (l.length < 20) = false from decide_eq_false (by omega)]; simp
theorem ownQ_yes {l : List Fd} (h : fieldsQ l = true) (h2 : (l.length : Int) < 20) : ownQ l = (((unfrL l).length : Int) == (l.length : Int)) := by
  unfold ownQ
  rw [h, show decide (l.length < 20) = true from decide_eq_true (by omega), Bool.true_and, Bool.true_and]
  cases hf : frmL l
  · have := unfr_len.2 hf
    rw [this]; simp
  · have h3 : ¬ (unfrL l).length = l.length := fun h4 => by rw [unfr_len.1 h4] at hf; cases hf
    have h4 : ¬ ((unfrL l).length : Int) = (l.length : Int) := by omega
    have h5 : (((unfrL l).length : Int) == (l.length : Int)) = false := beq_eq_false_iff_ne.2 h4
    rw [h5]; rfl
set_option maxHeartbeats 1000000 in
theorem ownFieldsOk_any (v : Value) (l : List Fd) (w : World) (hv : SlF w v l) (hl : l.length ≤ 1048576) (ht : totF l ≤ 1099511627776) :
    Calls Tryd.prog 27 #[v] w fun e w' => e = .returned (.bool (ownQ l)) ∧ Below w.heap.size w w' := by
  have HF := hideB2 (fun W h => FieldsOk_any v l W h hl ht)
  have HU := hideB2 (fun W h h1 h2 => unframed_any v l W h h1 h2)
  have HV := hideB2 hv
  obtain ⟨a, c0, rfl⟩ := hv.form
  clear hv
  cases hq : fieldsQ l
  · have HQ := hideB2 (ownQ_no1 hq)
    have HQ2 := hideB2 hq
    clear hq
    go_enter Tryd.func27, Tryd.ntmps27
    go_wp2_with (go_at_call 50; refine (HF.out _ HV.out).mono ?_; rintro e w' ⟨rfl, hb⟩; rw [HQ2.out])
    go_ret
    exact ⟨ret_bool HQ.out, hb⟩
  · by_cases h2 : (l.length : Int) < 20
    · have HQ := hideB2 (ownQ_yes hq h2)
      have HQ2 := hideB2 hq
      have HS := hideB2 (fun j (hj : j < l.length) => (fieldQ_sizes (fieldsQ_at hq hj)).1)
      clear hq
      generalize hm : l.length = m at *
      have HM := hideB2 hm
      clear hm
      generalize unfrL l = U at *
      go_enter Tryd.func27, Tryd.ntmps27
      go_wp2_with (first | (go_at_call 50; refine (HF.out _ HV.out).mono ?_; rintro e w' ⟨rfl, hb⟩; rw [HQ2.out]) | (go_at_call 51; refine (HU.out _ (HV.out.later hb) (by omega) HS.out).mono ?_; rintro e w2 ⟨v2, rfl, hb2⟩; obtain ⟨a2, c2, rfl⟩ := hb2.form))
      go_ret
      exact ⟨ret_bool HQ.out, below_then hb hb2.below⟩
    · have HQ := hideB2 (ownQ_no2 h2)
      have HQ2 := hideB2 hq
      clear hq
      generalize hm : l.length = m at *
      go_enter Tryd.func27, Tryd.ntmps27
      go_wp2_with (first | (go_at_call 50; refine (HF.out _ HV.out).mono ?_; rintro e w' ⟨rfl, hb⟩; rw [HQ2.out]))
      go_ret
      exact ⟨ret_bool HQ.out, hb⟩
/-- The first line, as bytes. -/
def firstB (m : Mg) : ByteArray := ⟨(firstL m).toArray⟩
theorem firstB_req {m : Mg} (h : eqB m.me ⟨#[]⟩ = false) : firstB m = m.me ++ ⟨#[32]⟩ ++ m.ta ++ ⟨#[32]⟩ ++ ⟨#[72, 84, 84, 80, 47, 49, 46, 49]⟩ := by
  apply bytes_ext
  simp [firstB, firstL, h, Go.Joins.data_append]
theorem firstB_ans {m : Mg} (h : eqB m.me ⟨#[]⟩ = true) : firstB m = ⟨#[72, 84, 84, 80, 47, 49, 46, 49, 32]⟩ ++ decT m.st ++ ⟨#[32]⟩ ++ m.re := by
  apply bytes_ext
  simp [firstB, firstL, h, Go.Joins.data_append]
theorem decT_size (n : Int) : (decT n).size ≤ 15 := by
  unfold decT
  split
  · rename_i h
    have := decDigits_len n.toNat (by omega)
    show (Lib.decDigits n.toNat).toArray.size ≤ 15
    simpa using this
  · show (0 : Nat) ≤ 15; omega
theorem firstB_size {m : Mg} (h1 : m.me.size ≤ 1048576) (h2 : m.ta.size ≤ 1048576) (h3 : m.re.size ≤ 1048576) : (firstB m).size ≤ 2097200 := by
  have hd := decT_size m.st
  rw [← len_data] at hd h1 h2 h3
  show (firstL m).toArray.size ≤ _
  unfold firstL
  split
  · simp only [List.size_toArray, List.length_append, List.length_cons, List.length_nil]; omega
  · simp only [List.size_toArray, List.length_append, List.length_cons, List.length_nil]; omega
theorem tab_later {w w' : World} (h : Tab10 w) (hb : Below w.heap.size w w') : Tab10 w' := by
  unfold Tab10 Lib.TabIs World.var? at *
  cases hg : Tryd.prog.globalNamed "internal/strconv.uint64pow10" with
  | none => rw [hg] at h; cases h
  | some g =>
    rw [hg] at h
    simp only [Option.bind_some] at h ⊢
    have hlt : g < w.heap.size := by
      rcases Nat.lt_or_ge g w.heap.size with h1 | h1
      · exact h1
      · rw [Array.getElem?_eq_none h1] at h; cases h
    rw [hb.block g hlt]; exact h
set_option maxHeartbeats 1000000 in
theorem firstText_any (me ta re bo : ByteArray) (st : Int) (ba : Bool) (fa : Option Addr) (fn fc : Nat) (fs : List Fd) (w : World) (hme : me.size ≤ 1048576) (hta : ta.size ≤ 1048576) (hre : re.size ≤ 1048576) (htab : Tab10 w) :
    Calls Tryd.prog 55 #[.agg #[.string me, .string ta, .int .i64 st, .string re, .bool ba, .slice fa fn fc, .string bo]] w fun e w' => e = .returned (.string (firstB ⟨me, ta, st, re, ba, fs, bo⟩)) ∧ Below w.heap.size w w' := by
  have HB := hideB2 (below_a1 w (.cells #[.string me, .string ta, .int .i64 st, .string re, .bool ba, .slice fa fn fc, .string bo] 29))
  have A1 := hideB2 (Blk.new w #[.string me, .string ta, .int .i64 st, .string re, .bool ba, .slice fa fn fc, .string bo] 29)
  cases h1 : eqB me ⟨#[]⟩
  · have HQ := hideB2 (firstB_req (m := ⟨me, ta, st, re, ba, fs, bo⟩) h1)
    rw [eqB_nil] at h1
    go_enter Tryd.func55, Tryd.ntmps55
    go_wp2
    go_ret
    exact ⟨ret_str HQ.out, HB.out⟩
  · have HQ := hideB2 (firstB_ans (m := ⟨me, ta, st, re, ba, fs, bo⟩) h1)
    rw [eqB_nil] at h1
    have HD := hideB2 (fun W h => DecText_all st W h)
    have hds := decT_size st
    have HT := hideB2 htab
    simp only at HQ
    generalize decT st = D at *
    clear htab
    go_enter Tryd.func55, Tryd.ntmps55
    go_wp2
    go_cut [2] (fun c wc => c = .string (firstB ⟨me, ta, st, re, ba, fs, bo⟩) ∧ Below w.heap.size w wc)
    case first =>
      go_region_with (go_at_call 58; refine (HD.out _ (tab_later HT.out (by first | exact HB.out | exact HB.out.drew))).mono ?_; rintro e w' ⟨rfl, hb⟩; obtain ⟨p0, p1, p2, p3, p4, p5, p6⟩ := (A1.out.drew.later hb).c7)
      all_goals
        go_wp2_with fail
        go_meet
        refine ⟨?_, ?_⟩
        · rw [HQ.out]
        · exact below_then HB.out.drew hb
    case rest =>
      obtain ⟨rfl, hb3⟩ := hcut
      go_wp2
      go_ret
      exact ⟨rfl, hb3⟩
end Go.Proofs.YtaelopjalfapgabDoor
