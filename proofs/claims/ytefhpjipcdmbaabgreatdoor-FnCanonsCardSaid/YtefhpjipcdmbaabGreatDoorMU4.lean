/-
  An address comes back from its text and from its place, on lists. No Go in sight.
-/
import Derived.Test.YtefhpjipcdmbaabGreatDoorU16
import Derived.Test.YtefhpjipcdmbaabGreatDoorU14
import Derived.Test.YtefhpjipcdmbaabGreatDoorMU3
namespace Go.Proofs.YtefhpjipcdmbaabGreatDoor
set_option linter.unusedVariables false
set_option linter.unusedSimpArgs false
open Go.RowKit
theorem rdec_decB {u : Nat} (h : u ≤ 999999999999999) : rdec (decB u) = some u := by
  have h1 := decDigits_len u h
  have h2 := List.length_pos_iff.2 (decDigits_ne_nil u)
  have hs : (decB u).size = (Lib.decDigits u).length := by show (Lib.decDigits u).toArray.size = _; simp
  have := rdec_yes (decB u) (by omega) (by omega) (by rw [decB_list]; exact allDig_dec u) (by rw [decB_list, valL_dec])
  rw [this, decB_list, valL_dec]
theorem rdecN_decT {n : Int} (h0 : 0 ≤ n) (h1 : n ≤ 65535) : rdecN (decT n) = n := by
  unfold decT
  rw [if_pos ⟨h0, by omega⟩, (rdec_some (rdec_decB (u := n.toNat) (by omega))).1]
  omega
/-- A host (turned or not) and its port. -/
theorem port_back {h : ByteArray} {n : Int} (hh : idxS 58 h = -1) (h0 : 1 ≤ n) (h1 : n ≤ 65535) :
    uptS 58 (h ++ portB n) = h ∧ (if hasS 58 (h ++ portB n) = true then rdecN (bhS 58 (h ++ portB n)) else 80) = n := by
  unfold portB
  split
  · rename_i e
    rw [bytes_nil_right]
    obtain ⟨a1, a2, a3⟩ := cut_none hh
    rw [a1, a3]
    exact ⟨rfl, e.symm⟩
  · rw [← bytes_assoc, upt_mid hh, bh_mid hh, (cut_some (idxS_mid (b := decT n) hh)).2.2, if_pos rfl]
    exact ⟨rfl, rdecN_decT (by omega) h1⟩
/-- A path and what is asked. -/
theorem query_back {f q : ByteArray} {b : Bool} (hf : idxS 63 f = -1) (hb : b = true ∨ q = ⟨#[]⟩) :
    uptS 63 (f ++ qryB q b) = f ∧ bhS 63 (f ++ qryB q b) = q ∧ hasS 63 (f ++ qryB q b) = b := by
  unfold qryB
  cases b
  · rw [if_neg (by simp), bytes_nil_right]
    obtain ⟨a1, a2, a3⟩ := cut_none hf
    rcases hb with hb | hb
    · cases hb
    · rw [a1, a2, a3, hb]; exact ⟨rfl, rfl, rfl⟩
  · rw [if_pos rfl, ← bytes_assoc]
    exact ⟨upt_mid hf, bh_mid hf, (cut_some (idxS_mid (b := q) hf)).2.2⟩
theorem no_app {c : UInt8} {a b : ByteArray} (ha : idxS c a = -1) (hb : idxS c b = -1) : idxS c (a ++ b) = -1 := by
  refine nob_iff.1 ?_
  rw [all_app, nob_iff.2 ha, nob_iff.2 hb]; rfl
theorem hst_no {h : ByteArray} (hq : hostQ h = true) {c : UInt8} (hc : hst8 c = false) : idxS c h = -1 := by
  unfold hostQ at hq
  simp only [Bool.and_eq_true] at hq
  refine nob_iff.1 (allB_mono hq.1.2 (fun b hb => ?_))
  rw [bne_iff_ne]
  intro e; subst e
  rw [hc] at hb; cases hb
theorem join_split (c : UInt8) : ∀ (n : Nat) (s : ByteArray), s.size ≤ n → joinS c (splS c s) = s
  | n, s, hn => by
    rcases idxS_cases c s with h | ⟨i, h, hi⟩
    · rw [(splS_none h).2, joinS_one]
    · cases n with
      | zero => omega
      | succ n =>
        have ih := join_split c n (s.extract (i + 1) s.size) (by rw [ByteArray.size_extract]; omega)
        rw [(splS_some h).2]
        cases hr : splS c (s.extract (i + 1) s.size) with
        | nil => exact absurd hr (splS_ne _ _)
        | cons y r =>
          rw [joinS_two, ← hr, ih]
          apply bytes_ext
          rw [Go.Joins.data_append, Go.Joins.data_append, Lib.extract_data, Lib.extract_data, List.drop_zero, Nat.sub_zero]
          have hl := len_data s
          have e1 : (s.data.toList.drop (i + 1)).take (s.size - (i + 1)) = s.data.toList.drop (i + 1) := List.take_of_length_le (by rw [List.length_drop]; omega)
          have e2 := drop_at8 (s := s) (i := i) hi
          rw [(idxS_some h).2.1] at e2
          have e3 : (⟨#[c]⟩ : ByteArray).data.toList = [c] := rfl
          rw [e1, e3, List.append_assoc]
          show s.data.toList.take i ++ c :: s.data.toList.drop (i + 1) = _
          rw [← e2]
          exact List.take_append_drop _ _
theorem turn_twice {h : ByteArray} (hq : hostQ h = true) : turnB (turnB h 46 44) 44 46 = h := by
  have h1 := turn_split hq
  show joinS 46 (splS 44 (turnB h 46 44)).reverse = h
  rw [h1, List.reverse_reverse]
  exact join_split 46 _ h (Nat.le_refl _)
theorem fold_host {h : ByteArray} (hq : hostQ h = true) : foldB h = h := by
  unfold hostQ at hq
  simp only [Bool.and_eq_true] at hq
  have ha := hq.1.2
  unfold allB at ha
  rw [List.all_eq_true] at ha
  apply bytes_ext
  show foldL h.data.toList = _
  unfold foldL
  refine (List.map_congr_left (g := id) (fun b hb => ?_)).trans (List.map_id _)
  have hb := ha b hb
  unfold low8
  rw [if_neg]
  · rfl
  · rintro ⟨g1, g2⟩
    unfold hst8 hstP pcP digP at hb
    simp at hb
    omega
structure UrlF (u : Ur) : Prop where
  host : hostQ u.ho = true
  p0 : 1 ≤ u.po
  p1 : u.po ≤ 65535
  path : pthQ u.pa = true
  cln : clnB u.pa = u.pa
  que : u.hq = true ∨ u.qu = ⟨#[]⟩
  q35 : idxS 35 u.qu = -1
  txt : targQ (utxt u.ho u.pa u.qu u.po u.hq) = true
theorem idx_neg {c : UInt8} {s : ByteArray} (h : idxS c s < 0) : idxS c s = -1 := by
  rcases idxS_cases c s with g | ⟨i, g, _⟩
  · exact g
  · omega
theorem urlF {u : Ur} (h : urQ u = true) : UrlF u := by
  unfold urQ urlQ queQ at h
  simp only [Bool.and_eq_true, Bool.or_eq_true, decide_eq_true_eq, Bool.not_eq_true', within_iff] at h
  obtain ⟨⟨⟨⟨⟨h1, h2⟩, h3⟩, h4⟩, h5⟩, h6⟩ := h
  have h4 := eqB_iff.1 h4
  refine ⟨h1, h2.1, h2.2, ?_, h4, ?_, idx_neg h5.2, h6⟩
  · cases hp : pthQ u.pa with
    | true => rfl
    | false =>
      rw [clnB_no hp] at h4
      rw [← h4, eqB_self] at h3
      cases h3
  · rcases h5.1 with g | g
    · exact .inl g
    · exact .inr (eqB_iff.1 g)
theorem path_no {p : ByteArray} (hp : pthQ p = true) {c : UInt8} (hc : nof8 c = false) : idxS c p = -1 := by
  unfold pthQ at hp
  simp only [Bool.and_eq_true] at hp
  refine nob_iff.1 (allB_mono hp.2 (fun b hb => ?_))
  rw [bne_iff_ne]
  intro e; subst e
  rw [hc] at hb; cases hb
theorem path_split {p : ByteArray} (hp : pthQ p = true) : ∃ r : ByteArray, p = (⟨#[47]⟩ : ByteArray) ++ r := by
  unfold pthQ at hp
  simp only [Bool.and_eq_true] at hp
  have h1 := (targQ_iff.1 hp.1.1).1
  refine ⟨p.extract 1 p.size, bytes_ext ?_⟩
  rw [Go.Joins.data_append, Lib.extract_data]
  have h2 := drop_at8 (s := p) (i := 0) (by omega)
  rw [List.drop_zero, eq_of_beq hp.1.2] at h2
  have hl := len_data p
  rw [List.take_of_length_le (by rw [List.length_drop]; omega)]
  exact h2
/-- The place read back. -/
theorem usK_back {u : Ur} (h : urQ u = true) : usK (suU u) = u := by
  have F := urlF h
  have hf := suU_form h
  have hh := F.host
  have h41 : idxS 41 (turnB u.ho 46 44 ++ portB u.po) = -1 := no_app (tn_no hh (by decide) (by decide)) (port_no (by decide) (by decide))
  have e1 : uptS 41 (suU u) = turnB u.ho 46 44 ++ portB u.po := by rw [hf]; exact upt_mid h41
  have e2 : bhS 41 (suU u) = u.pa ++ qryB u.qu u.hq := by rw [hf]; exact bh_mid h41
  obtain ⟨p1, p2⟩ := port_back (h := turnB u.ho 46 44) (n := u.po) (tn_no hh (by decide) (by decide)) F.p0 F.p1
  obtain ⟨q1, q2, q3⟩ := query_back (f := u.pa) (q := u.qu) (b := u.hq) (path_no F.path (by decide)) F.que
  rw [usK_form, e1, e2, p1, q1, q2, q3, turn_twice hh]
  obtain ⟨ho, pa, qu, po, hq⟩ := u
  simp only at p2 ⊢
  rw [p2]
theorem us_back {u : Ur} (h : urQ u = true) : usO (suU u) = true ∧ usU (suU u) = u := by
  have e := usK_back h
  have e1 : usO (suU u) = true := by unfold usO; rw [e, h, eqB_self]; rfl
  exact ⟨e1, by unfold usU; rw [if_pos e1, e]⟩
/-- The text read back. -/
theorem rdK_back {u : Ur} (h : urQ u = true) : rdK (((u.ho ++ portB u.po) ++ u.pa) ++ qryB u.qu u.hq) = u := by
  have F := urlF h
  have hh := F.host
  obtain ⟨r, hr⟩ := path_split F.path
  have f63 : idxS 63 ((u.ho ++ portB u.po) ++ u.pa) = -1 := no_app (no_app (hst_no hh (by decide)) (port_no (by decide) (by decide))) (path_no F.path (by decide))
  have f47 : idxS 47 (u.ho ++ portB u.po) = -1 := no_app (hst_no hh (by decide)) (port_no (by decide) (by decide))
  obtain ⟨g1, g2, g3⟩ := query_back (f := (u.ho ++ portB u.po) ++ u.pa) (q := u.qu) (b := u.hq) f63 F.que
  have ea : auU (((u.ho ++ portB u.po) ++ u.pa) ++ qryB u.qu u.hq) = u.ho ++ portB u.po := by
    unfold auU
    rw [g1, hr, ← bytes_assoc]
    exact upt_mid f47
  have er : reU (((u.ho ++ portB u.po) ++ u.pa) ++ qryB u.qu u.hq) = u.pa ++ qryB u.qu u.hq := by
    unfold reU
    rw [ea, bytes_assoc (u.ho ++ portB u.po)]
    exact ext_app2 _ _
  obtain ⟨p1, p2⟩ := port_back (h := u.ho) (n := u.po) (hst_no hh (by decide)) F.p0 F.p1
  obtain ⟨q1, q2, q3⟩ := query_back (f := u.pa) (q := u.qu) (b := u.hq) (path_no F.path (by decide)) F.que
  have hz : ¬ u.pa.size = 0 := by
    have := (clnB_head F.path).1
    rw [F.cln] at this; omega
  unfold rdK
  rw [ea, er, p1, q1, g2, g3, if_neg hz, F.cln, fold_host hh]
  obtain ⟨ho, pa, qu, po, hq⟩ := u
  simp only at p2 ⊢
  rw [p2]
theorem rd_back {u : Ur} (h : urQ u = true) : rdO (utxt u.ho u.pa u.qu u.po u.hq) = true ∧ rdU (utxt u.ho u.pa u.qu u.po u.hq) = u := by
  have F := urlF h
  have hh := F.host
  have ef : utxt u.ho u.pa u.qu u.po u.hq = schB ++ (((u.ho ++ portB u.po) ++ u.pa) ++ qryB u.qu u.hq) := by
    unfold utxt
    rw [bytes_assoc schB, bytes_assoc schB, bytes_assoc schB]
  have e7 : (utxt u.ho u.pa u.qu u.po u.hq).extract 7 (utxt u.ho u.pa u.qu u.po u.hq).size = ((u.ho ++ portB u.po) ++ u.pa) ++ qryB u.qu u.hq := by
    rw [ef]; exact ext_app2 schB _
  have e0 : (utxt u.ho u.pa u.qu u.po u.hq).extract 0 7 = schB := by
    rw [ef]; exact ext_app1 schB _
  have hk := rdK_back h
  have hz := utxt_size u.ho u.pa u.qu u.po u.hq
  have q35 : idxS 35 (qryB u.qu u.hq) = -1 := by
    unfold qryB
    split
    · exact no_app (by kernel_rfl) F.q35
    · kernel_rfl
  have h35 : idxS 35 (utxt u.ho u.pa u.qu u.po u.hq) = -1 := by
    rw [ef]
    exact no_app (by kernel_rfl) (no_app (no_app (no_app (hst_no hh (by decide)) (port_no (by decide) (by decide))) (path_no F.path (by decide))) q35)
  have hA : rdA (utxt u.ho u.pa u.qu u.po u.hq) = true := by
    unfold rdA pre7
    rw [F.txt, h35, e0, decide_eq_true (by omega : 7 ≤ (utxt u.ho u.pa u.qu u.po u.hq).size)]
    have e3 : eqB (foldB schB) schB = true := by kernel_rfl
    rw [e3]; rfl
  have hO : rdO (utxt u.ho u.pa u.qu u.po u.hq) = true := by
    unfold rdO
    rw [hA, e7, hk, h]; rfl
  exact ⟨hO, by unfold rdU; rw [if_pos hO, e7, hk]⟩
end Go.Proofs.YtefhpjipcdmbaabGreatDoor
