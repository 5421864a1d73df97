/-
  Chapter 7: an address read off its place in the index, on lists.
-/
import Derived.Test.YtefhpjipcdmbaabGreatDoorU14
namespace Go.Proofs.YtefhpjipcdmbaabGreatDoor
set_option linter.unusedVariables false
set_option linter.unusedSimpArgs false
open Go.RowKit
theorem at8_app1 {a b : ByteArray} {j : Nat} (h : j < a.size) : at8 (a ++ b) j = at8 a j := by
  have hl : j < a.data.toList.length := by rw [len_data]; exact h
  unfold at8
  rw [Go.Joins.data_append, List.getD, List.getD, List.getElem?_append_left hl]
theorem at8_app2 {a b : ByteArray} {j : Nat} : at8 (a ++ b) (a.size + j) = at8 b j := by
  unfold at8
  rw [Go.Joins.data_append, List.getD, List.getD, List.getElem?_append_right (by rw [len_data]; omega), len_data, Nat.add_sub_cancel_left]
theorem nob_iff {c : UInt8} {s : ByteArray} : allB (fun b => b != c) s = true ↔ idxS c s = -1 := by
  constructor
  · intro h
    refine idxS_miss (fun j hj he => ?_)
    have := allB_no (p := fun b => b != c) hj (by show (at8 s j != c) = false; rw [he]; simp)
    rw [h] at this; cases this
  · intro h
    refine allB_yes (fun j hj => ?_)
    have := idxS_none h j hj
    show (at8 s j != c) = true
    rw [bne_iff_ne]; exact this
theorem idxS_mid {c : UInt8} {a b : ByteArray} (h : idxS c a = -1) : idxS c ((a ++ (⟨#[c]⟩ : ByteArray)) ++ b) = (a.size : Int) := by
  have e1 : (⟨#[c]⟩ : ByteArray).size = 1 := rfl
  refine idxS_of ?_ ?_ ?_
  · rw [ByteArray.size_append, ByteArray.size_append]; omega
  · rw [bytes_assoc]
    have := at8_app2 (a := a) (b := (⟨#[c]⟩ : ByteArray) ++ b) (j := 0)
    rw [Nat.add_zero] at this
    rw [this, at8_app1 (by rw [e1]; omega)]
    rfl
  · intro j hj
    rw [bytes_assoc, at8_app1 hj]
    exact idxS_none h j hj
theorem ext_app1 (a b : ByteArray) : (a ++ b).extract 0 a.size = a := by
  apply bytes_ext
  rw [Lib.extract_data, Go.Joins.data_append, List.drop_zero, Nat.sub_zero, ← len_data a]
  exact List.take_left
theorem ext_app2 (a b : ByteArray) : (a ++ b).extract a.size (a ++ b).size = b := by
  apply bytes_ext
  rw [Lib.extract_data, Go.Joins.data_append, ← len_data a, List.drop_left]
  exact List.take_of_length_le (by rw [len_data, ByteArray.size_append, len_data]; omega)
theorem upt_mid {c : UInt8} {a b : ByteArray} (h : idxS c a = -1) : uptS c ((a ++ (⟨#[c]⟩ : ByteArray)) ++ b) = a := by
  rw [uptS_some (idxS_mid h), bytes_assoc]
  exact ext_app1 _ _
theorem bh_mid {c : UInt8} {a b : ByteArray} (h : idxS c a = -1) : bhS c ((a ++ (⟨#[c]⟩ : ByteArray)) ++ b) = b := by
  rw [(cut_some (idxS_mid h)).2.1]
  have e : a.size + 1 = (a ++ (⟨#[c]⟩ : ByteArray)).size := by rw [ByteArray.size_append]; rfl
  rw [e]
  exact ext_app2 _ _
theorem joinS_one (c : UInt8) (x : ByteArray) : joinS c [x] = x := by
  apply bytes_ext
  have h := joinS_tail c x []
  rw [tailS_cons, tailS_nil, List.append_nil] at h
  injection h
theorem joinS_two (c : UInt8) (x y : ByteArray) (r : List ByteArray) : joinS c (x :: y :: r) = (x ++ (⟨#[c]⟩ : ByteArray)) ++ joinS c (y :: r) := by
  apply bytes_ext
  have h1 := joinS_tail c x (y :: r)
  have h2 := joinS_tail c y r
  rw [tailS_cons, ← h2] at h1
  injection h1 with _ h1
  rw [h1, Go.Joins.data_append, Go.Joins.data_append]
  simp
theorem split_join (c : UInt8) : ∀ (l : List ByteArray), l ≠ [] → (∀ x ∈ l, idxS c x = -1) → splS c (joinS c l) = l
  | [], h, _ => absurd rfl h
  | [x], _, hn => by rw [joinS_one]; exact (splS_none (hn x List.mem_cons_self)).2
  | x :: y :: r, _, hn => by
    have hx := hn x List.mem_cons_self
    have ih := split_join c (y :: r) (by simp) (fun z hz => hn z (List.mem_cons_of_mem _ hz))
    rw [joinS_two, (splS_some (idxS_mid hx)).2]
    have e1 := upt_mid (b := joinS c (y :: r)) hx
    rw [uptS_some (idxS_mid hx)] at e1
    have e2 := bh_mid (b := joinS c (y :: r)) hx
    rw [(cut_some (idxS_mid hx)).2.1] at e2
    rw [e1, e2, ih]
theorem joinS_all {q : UInt8 → Bool} {d : UInt8} (hd : q d = true) : ∀ (l : List ByteArray), (∀ x ∈ l, allB q x = true) → allB q (joinS d l) = true
  | [], _ => rfl
  | [x], h => by rw [joinS_one]; exact h x List.mem_cons_self
  | x :: y :: r, h => by
    rw [joinS_two, all_app, all_app, h x List.mem_cons_self, joinS_all hd (y :: r) (fun z hz => h z (List.mem_cons_of_mem _ hz))]
    show (true && allB q ⟨#[d]⟩ && true) = true
    rw [show allB q ⟨#[d]⟩ = q d by unfold allB; simp, hd]
    rfl
theorem joinS_size_eq (c : UInt8) (l : List ByteArray) (h : l ≠ []) : (joinS c l).size + 1 = l.length + sumS l := by
  cases l with
  | nil => exact absurd rfl h
  | cons x r =>
    have h1 := congrArg List.length (joinS_tail c x r)
    rw [tailS_len, List.length_cons, len_data] at h1
    exact h1
theorem turnB_size_eq (h : ByteArray) (c d : UInt8) : (turnB h c d).size = h.size := by
  have h1 := joinS_size_eq d (splS c h).reverse (by simpa using splS_ne c h)
  have h2 := splS_len c h
  have h3 := splS_sum c h.size h (Nat.le_refl _)
  rw [List.length_reverse, sumS_rev] at h1
  unfold turnB
  omega
/-- Of a host: each piece is of its own signs, none is empty. -/
theorem host_pieces {h : ByteArray} (hq : hostQ h = true) : ∀ x ∈ splS 46 h, allB pc8 x = true ∧ x.size ≠ 0 := by
  intro x hx
  unfold hostQ at hq
  rw [Bool.and_eq_true, Bool.and_eq_true] at hq
  have h1 := hq.1.2
  rw [hst_pieces, List.all_eq_true] at h1
  refine ⟨h1 x hx, fun h0 => ?_⟩
  have h2 : (splS 46 h).any (fun x => eqB x ⟨#[]⟩) = true := List.any_eq_true.2 ⟨x, hx, by rw [size_nil h0]; exact eqB_self _⟩
  rw [h2] at hq
  cases hq.2
def tn8 (b : UInt8) : Bool := pc8 b || b == 44
theorem turn_all {h : ByteArray} (hq : hostQ h = true) : allB tn8 (turnB h 46 44) = true := by
  refine joinS_all (q := tn8) (d := 44) rfl _ (fun x hx => ?_)
  have := (host_pieces hq x (List.mem_reverse.1 hx)).1
  exact allB_mono this (fun b hb => by unfold tn8; rw [hb]; rfl)
theorem pc_ne {b c : UInt8} (hc : pc8 c = false) (h : pc8 b = true) : b ≠ c := by
  intro e; subst e; rw [h] at hc; cases hc
theorem tn_no {h : ByteArray} (hq : hostQ h = true) {c : UInt8} (hc : pc8 c = false) (h44 : c ≠ 44) : idxS c (turnB h 46 44) = -1 := by
  refine nob_iff.1 (allB_mono (turn_all hq) (fun b hb => ?_))
  rw [bne_iff_ne]
  intro e
  subst e
  unfold tn8 at hb
  rw [hc, Bool.false_or, beq_iff_eq] at hb
  exact h44 hb
theorem turn_split {h : ByteArray} (hq : hostQ h = true) : splS 44 (turnB h 46 44) = (splS 46 h).reverse := by
  refine split_join 44 _ (by simpa using splS_ne 46 h) (fun x hx => ?_)
  have := (host_pieces hq x (List.mem_reverse.1 hx)).1
  exact nob_iff.1 (allB_mono this (fun b hb => by rw [bne_iff_ne]; exact pc_ne (by decide) hb))
theorem port_no {n : Int} {c : UInt8} (h1 : (58 : UInt8) ≠ c) (hc : digP (c.toNat : Int) = false) : idxS c (portB n) = -1 := by
  refine nob_iff.1 ?_
  unfold portB
  split
  · rfl
  · rw [all_app]
    have e1 : allB (fun b => b != c) ⟨#[58]⟩ = true := by
      unfold allB
      simp [h1]
    rw [e1, Bool.true_and]
    unfold decT
    split
    · unfold allB decB
      rw [List.all_eq_true]
      intro b hb
      have hd := allDig_dec n.toNat
      unfold allDig at hd
      rw [List.all_eq_true] at hd
      have h2 : dig8 b = true := hd b hb
      show (b != c) = true
      rw [bne_iff_ne]
      intro e
      subst e
      unfold dig8 at h2
      rw [hc] at h2; cases h2
    · rfl
/-- The place of an address. -/
def suU (u : Ur) : ByteArray := surtB u.ho u.pa u.qu u.po u.hq
theorem suU_form {u : Ur} (h : urQ u = true) : suU u = ((turnB u.ho 46 44 ++ portB u.po) ++ (⟨#[41]⟩ : ByteArray)) ++ (u.pa ++ qryB u.qu u.hq) := by
  unfold suU surtB
  rw [if_pos (show urlQ u.ho u.pa u.qu u.po u.hq = true from h), bytes_assoc]
theorem suU_no {u : Ur} (h : urQ u = false) : suU u = ⟨#[]⟩ := by
  unfold suU surtB
  rw [if_neg (show ¬ urlQ u.ho u.pa u.qu u.po u.hq = true from by unfold urQ at h; rw [h]; simp)]
theorem urQ_host {u : Ur} (h : urQ u = true) : hostQ u.ho = true := by
  unfold urQ urlQ at h
  simp only [Bool.and_eq_true] at h
  exact h.1.1.1.1.1
theorem suU_parts {u : Ur} (h : urQ u = true) : hasS 41 (suU u) = true ∧ uptS 58 (uptS 41 (suU u)) = turnB u.ho 46 44 ∧ (suU u).size ≤ 200 ∧ suU u ≠ ⟨#[]⟩ := by
  have hh := urQ_host h
  have h1 : idxS 41 (turnB u.ho 46 44 ++ portB u.po) = -1 := by
    refine nob_iff.1 ?_
    rw [all_app, nob_iff.2 (tn_no hh (by decide) (by decide)), nob_iff.2 (port_no (by decide) (by decide))]
    rfl
  have hf := suU_form h
  have hm := idxS_mid (b := u.pa ++ qryB u.qu u.hq) h1
  refine ⟨?_, ?_, ?_, ?_⟩
  · rw [hf, (cut_some hm).2.2]
  · rw [hf, upt_mid h1]
    unfold portB
    have h58 := tn_no hh (c := 58) (by decide) (by decide)
    split
    · rw [bytes_nil_right]; exact uptS_none h58
    · rw [← bytes_assoc]; exact upt_mid h58
  · have h2 : targQ (utxt u.ho u.pa u.qu u.po u.hq) = true := by
      unfold urQ urlQ at h
      simp only [Bool.and_eq_true] at h
      exact h.2
    have h3 := (targQ_iff.1 h2).2.1
    rw [utxt_size] at h3
    rw [hf, ByteArray.size_append, ByteArray.size_append, ByteArray.size_append, ByteArray.size_append, turnB_size_eq]
    have e1 : (⟨#[41]⟩ : ByteArray).size = 1 := rfl
    omega
  · intro he
    have := congrArg ByteArray.size he
    rw [hf, ByteArray.size_append, ByteArray.size_append] at this
    have e1 : (⟨#[41]⟩ : ByteArray).size = 1 := rfl
    have e2 : (⟨#[]⟩ : ByteArray).size = 0 := rfl
    omega
/-- The parts of a place, the host turned back. -/
def usT (t s : ByteArray) : Ur := ⟨t, uptS 63 (bhS 41 s), bhS 63 (bhS 41 s), if hasS 58 (uptS 41 s) = true then rdecN (bhS 58 (uptS 41 s)) else 80, hasS 63 (bhS 41 s)⟩
def hoS (s : ByteArray) : ByteArray := uptS 58 (uptS 41 s)
def usK (s : ByteArray) : Ur := usT (turnB (hoS s) 44 46) s
def usO (s : ByteArray) : Bool := urQ (usK s) && eqB (suU (usK s)) s
def usU (s : ByteArray) : Ur := if usO s = true then usK s else ur0
/-- As the specification looks at it. -/
def ssK (s : ByteArray) : Ur := usT (turnS (hoS s) 44 46) s
theorem turn_same {h : ByteArray} (hx : ∀ x r, (splS 44 h).reverse = x :: r → x.size ≠ 0) : turnS h 44 46 = turnB h 44 46 := by
  unfold turnS turnB
  cases hr : (splS 44 h).reverse with
  | nil => rfl
  | cons x r => exact trnF_join 46 x r (hx x r hr)
theorem turn_empty {h : ByteArray} {x : ByteArray} {r : List ByteArray} (hr : (splS 44 h).reverse = x :: r) (h0 : x.size = 0) : hostQ (turnB h 44 46) = false := by
  have hx := size_nil h0
  subst hx
  have hany : (splS 46 (turnB h 44 46)).any (fun x => eqB x ⟨#[]⟩) = true := by
    unfold turnB
    rw [hr]
    cases r with
    | nil => rw [joinS_one, (splS_none (c := 46) (s := ⟨#[]⟩) (idxS_miss (fun j hj => absurd hj (Nat.not_lt_zero j)))).2]; exact List.any_eq_true.2 ⟨⟨#[]⟩, List.mem_cons_self, eqB_self _⟩
    | cons y r =>
      have hn : idxS 46 (⟨#[]⟩ : ByteArray) = -1 := idxS_miss (fun j hj => absurd hj (Nat.not_lt_zero j))
      rw [joinS_two, (splS_some (idxS_mid hn)).2]
      refine List.any_eq_true.2 ⟨_, List.mem_cons_self, ?_⟩
      rw [size_nil (x := ByteArray.extract _ 0 _) (by rw [ByteArray.size_extract]; show min 0 _ - 0 = 0; omega)]
      exact eqB_self _
  unfold hostQ
  rw [hany]
  simp
theorem usK_ho (s : ByteArray) : (usK s).ho = turnB (hoS s) 44 46 := by simp only [usK, usT]
theorem us_same (s : ByteArray) : (s.size ≤ 200 ∧ hasS 41 s = true ∧ suU (ssK s) = s ∧ s ≠ ⟨#[]⟩ ↔ usO s = true) ∧ (usO s = true → ssK s = usK s) := by
  have back : usO s = true → ssK s = usK s := by
    intro h
    unfold usO at h
    rw [Bool.and_eq_true] at h
    have hh := urQ_host h.1
    rw [usK_ho] at hh
    unfold ssK usK
    rw [turn_same (fun x r hr h0 => by rw [turn_empty hr h0] at hh; cases hh)]
  refine ⟨⟨?_, ?_⟩, back⟩
  · rintro ⟨h1, h2, h3, h4⟩
    have hq : urQ (ssK s) = true := by
      cases hq : urQ (ssK s) with
      | true => rfl
      | false => rw [suU_no hq] at h3; exact absurd h3.symm h4
    obtain ⟨_, g2, _, _⟩ := suU_parts hq
    rw [h3] at g2
    have hh := urQ_host hq
    have hts : turnS (hoS s) 44 46 = turnB (hoS s) 44 46 := by
      refine turn_same (fun x r hr h0 => ?_)
      have e : hoS s = turnB (ssK s).ho 46 44 := g2
      rw [e, turn_split hh, List.reverse_reverse] at hr
      exact (host_pieces hh x (by rw [hr]; exact List.mem_cons_self)).2 h0
    have hk : ssK s = usK s := by unfold ssK usK; rw [hts]
    unfold usO
    rw [← hk, hq, h3, eqB_self]; rfl
  · intro h
    have hk := back h
    unfold usO at h
    rw [Bool.and_eq_true] at h
    obtain ⟨g1, _, g3, g4⟩ := suU_parts h.1
    have e := eqB_iff.1 h.2
    rw [e] at g1 g3 g4
    exact ⟨g3, g1, by rw [hk]; exact e, g4⟩
end Go.Proofs.YtefhpjipcdmbaabGreatDoor
