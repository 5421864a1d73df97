/-
  An address comes back from its text and from its place, on lists. No Go in sight. · The drawing functions of chapter 3: bytes, texts to be digested, a word and a turn. · A block known whole, kept while numbers are drawn. · The drawing functions of chapter 7: an address, bent or not. · What the fixed addresses of the laws give. No Go in sight. · The fixed addresses of the laws; a text at another's beginning. · Chapter 7: an address read off its place in the index; the specification's side. · The code that a law is handed, as the walks want it. · What a card of a door seat of chapter 1 needs: the listed tables. · What a card of a door seat of chapter 6 needs: the table of the powers of ten.
-/
import Derived.Test.YtffjpidjhcnnmacGreatDoorJ6
import Derived.Test.YtffjpidjhcnnmacGreatDoorJ0
import Derived.Test.YtffjpidjhcnnmacGreatDoorJ1
import Derived.Test.YtffjpidjhcnnmacGreatDoorJ2
import Derived.Test.YtffjpidjhcnnmacGreatDoorJ5
import Derived.Test.YtffjpidjhcnnmacGreatDoorJ4
import Derived.Lib.LaidTab
import Derived.LaidLaws
import Derived.LaidHandle
import Derived.ChangeVars
import Derived.OpenVars
import Derived.SevenTiedAt
namespace Go.Proofs.YtffjpidjhcnnmacGreatDoor
set_option linter.unusedVariables false
set_option linter.unusedSimpArgs false
open Go.RowKit
theorem rdec_decB {u : Nat} (h : u ≤ 999999999999999) : rdec (decB u) = some u := by
  have h1 := decDigits_len u h
  have h2 := List.length_pos_iff.2 (decDigits_ne_nil u)
  have hs : (decB u).size = (Lib.decDigits u).length := by show (Lib.decDigits u).toArray.size = _; simp
  have := rdec_yes (decB u) (by omega) (by omega) (by rw [decB_list]; exact allDig_dec u) (by rw [decB_list, valL_dec])
  rw [this, decB_list, valL_dec]
theorem rdecN_decT {n : Int} (h0 : 0 ≤ n) (h1 : n ≤ 65535) : rdecN (decT n) = n := by
  unfold decT
  rw [if_pos ⟨h0, by omega⟩, (rdec_some (rdec_decB (u := n.toNat) (by omega))).1]
  omega
/-- A host (turned or not) and its port. -/
theorem port_back {h : ByteArray} {n : Int} (hh : idxS 58 h = -1) (h0 : 1 ≤ n) (h1 : n ≤ 65535) :
    uptS 58 (h ++ portB n) = h ∧ (if hasS 58 (h ++ portB n) = true then rdecN (bhS 58 (h ++ portB n)) else 80) = n := by
  unfold portB
  split
  · rename_i e
    rw [bytes_nil_right]
    obtain ⟨a1, a2, a3⟩ := cut_none hh
    rw [a1, a3]
    exact ⟨rfl, e.symm⟩
  · rw [← bytes_assoc, upt_mid hh, bh_mid hh, (cut_some (idxS_mid (b := decT n) hh)).2.2, if_pos rfl]
    exact ⟨rfl, rdecN_decT (by omega) h1⟩
/-- A path and what is asked. -/
theorem query_back {f q : ByteArray} {b : Bool} (hf : idxS 63 f = -1) (hb : b = true ∨ q = ⟨#[]⟩) :
    uptS 63 (f ++ qryB q b) = f ∧ bhS 63 (f ++ qryB q b) = q ∧ hasS 63 (f ++ qryB q b) = b := by
  unfold qryB
  cases b
  · rw [if_neg (by simp), bytes_nil_right]
    obtain ⟨a1, a2, a3⟩ := cut_none hf
    rcases hb with hb | hb
    · cases hb
    · rw [a1, a2, a3, hb]; exact ⟨rfl, rfl, rfl⟩
  · rw [if_pos rfl, ← bytes_assoc]
    exact ⟨upt_mid hf, bh_mid hf, (cut_some (idxS_mid (b := q) hf)).2.2⟩
theorem no_app {c : UInt8} {a b : ByteArray} (ha : idxS c a = -1) (hb : idxS c b = -1) : idxS c (a ++ b) = -1 := by
  refine nob_iff.1 ?_
  rw [all_app, nob_iff.2 ha, nob_iff.2 hb]; rfl
theorem hst_no {h : ByteArray} (hq : hostQ h = true) {c : UInt8} (hc : hst8 c = false) : idxS c h = -1 := by
  unfold hostQ at hq
  simp only [Bool.and_eq_true] at hq
  refine nob_iff.1 (allB_mono hq.1.2 (fun b hb => ?_))
  rw [bne_iff_ne]
  intro e; subst e
  rw [hc] at hb; cases hb
theorem join_split (c : UInt8) : ∀ (n : Nat) (s : ByteArray), s.size ≤ n → joinS c (splS c s) = s
  | n, s, hn => by
    rcases idxS_cases c s with h | ⟨i, h, hi⟩
    · rw [(splS_none h).2, joinS_one]
    · cases n with
      | zero => omega
      | succ n =>
        have ih := join_split c n (s.extract (i + 1) s.size) (by rw [ByteArray.size_extract]; omega)
        rw [(splS_some h).2]
        cases hr : splS c (s.extract (i + 1) s.size) with
        | nil => exact absurd hr (splS_ne _ _)
        | cons y r =>
          rw [joinS_two, ← hr, ih]
          apply bytes_ext
          rw [Go.Joins.data_append, Go.Joins.data_append, Lib.extract_data, Lib.extract_data, List.drop_zero, Nat.sub_zero]
          have hl := len_data s
          have e1 : (s.data.toList.drop (i + 1)).take (s.size - (i + 1)) = s.data.toList.drop (i + 1) := List.take_of_length_le (by rw [List.length_drop]; omega)
          have e2 := drop_at8 (s := s) (i := i) hi
          rw [(idxS_some h).2.1] at e2
          have e3 : (⟨#[c]⟩ : ByteArray).data.toList = [c] := rfl
          rw [e1, e3, List.append_assoc]
          show s.data.toList.take i ++ c :: s.data.toList.drop (i + 1) = _
          rw [← e2]
          exact List.take_append_drop _ _
theorem turn_twice {h : ByteArray} (hq : hostQ h = true) : turnB (turnB h 46 44) 44 46 = h := by
  have h1 := turn_split hq
  show joinS 46 (splS 44 (turnB h 46 44)).reverse = h
  rw [h1, List.reverse_reverse]
  exact join_split 46 _ h (Nat.le_refl _)
theorem fold_host {h : ByteArray} (hq : hostQ h = true) : foldB h = h := by
  unfold hostQ at hq
  simp only [Bool.and_eq_true] at hq
  have ha := hq.1.2
  unfold allB at ha
  rw [List.all_eq_true] at ha
  apply bytes_ext
  show foldL h.data.toList = _
  unfold foldL
  refine (List.map_congr_left (g := id) (fun b hb => ?_)).trans (List.map_id _)
  have hb := ha b hb
  unfold low8
  rw [if_neg]
  · rfl
  · rintro ⟨g1, g2⟩
    unfold hst8 hstP pcP digP at hb
    simp at hb
    omega
structure UrlF (u : Ur) : Prop where
  host : hostQ u.ho = true
  p0 : 1 ≤ u.po
  p1 : u.po ≤ 65535
  path : pthQ u.pa = true
  cln : clnB u.pa = u.pa
  que : u.hq = true ∨ u.qu = ⟨#[]⟩
  q35 : idxS 35 u.qu = -1
  txt : targQ (utxt u.ho u.pa u.qu u.po u.hq) = true
theorem idx_neg {c : UInt8} {s : ByteArray} (h : idxS c s < 0) : idxS c s = -1 := by
  rcases idxS_cases c s with g | ⟨i, g, _⟩
  · exact g
  · omega
theorem urlF {u : Ur} (h : urQ u = true) : UrlF u := by
  unfold urQ urlQ queQ at h
  simp only [Bool.and_eq_true, Bool.or_eq_true, decide_eq_true_eq, Bool.not_eq_true', within_iff] at h
  obtain ⟨⟨⟨⟨⟨h1, h2⟩, h3⟩, h4⟩, h5⟩, h6⟩ := h
  have h4 := eqB_iff.1 h4
  refine ⟨h1, h2.1, h2.2, ?_, h4, ?_, idx_neg h5.2, h6⟩
  · cases hp : pthQ u.pa with
    | true => rfl
    | false =>
      rw [clnB_no hp] at h4
      rw [← h4, eqB_self] at h3
      cases h3
  · rcases h5.1 with g | g
    · exact .inl g
    · exact .inr (eqB_iff.1 g)
theorem path_no {p : ByteArray} (hp : pthQ p = true) {c : UInt8} (hc : nof8 c = false) : idxS c p = -1 := by
  unfold pthQ at hp
  simp only [Bool.and_eq_true] at hp
  refine nob_iff.1 (allB_mono hp.2 (fun b hb => ?_))
  rw [bne_iff_ne]
  intro e; subst e
  rw [hc] at hb; cases hb
theorem path_split {p : ByteArray} (hp : pthQ p = true) : ∃ r : ByteArray, p = (⟨#[47]⟩ : ByteArray) ++ r := by
  unfold pthQ at hp
  simp only [Bool.and_eq_true] at hp
  have h1 := (targQ_iff.1 hp.1.1).1
  refine ⟨p.extract 1 p.size, bytes_ext ?_⟩
  rw [Go.Joins.data_append, Lib.extract_data]
  have h2 := drop_at8 (s := p) (i := 0) (by omega)
  rw [List.drop_zero, eq_of_beq hp.1.2] at h2
  have hl := len_data p
  rw [List.take_of_length_le (by rw [List.length_drop]; omega)]
  exact h2
/-- The place read back. -/
theorem usK_back {u : Ur} (h : urQ u = true) : usK (suU u) = u := by
  have F := urlF h
  have hf := suU_form h
  have hh := F.host
  have h41 : idxS 41 (turnB u.ho 46 44 ++ portB u.po) = -1 := no_app (tn_no hh (by decide) (by decide)) (port_no (by decide) (by decide))
  have e1 : uptS 41 (suU u) = turnB u.ho 46 44 ++ portB u.po := by rw [hf]; exact upt_mid h41
  have e2 : bhS 41 (suU u) = u.pa ++ qryB u.qu u.hq := by rw [hf]; exact bh_mid h41
  obtain ⟨p1, p2⟩ := port_back (h := turnB u.ho 46 44) (n := u.po) (tn_no hh (by decide) (by decide)) F.p0 F.p1
  obtain ⟨q1, q2, q3⟩ := query_back (f := u.pa) (q := u.qu) (b := u.hq) (path_no F.path (by decide)) F.que
  rw [usK_form, e1, e2, p1, q1, q2, q3, turn_twice hh]
  obtain ⟨ho, pa, qu, po, hq⟩ := u
  simp only at p2 ⊢
  rw [p2]
theorem us_back {u : Ur} (h : urQ u = true) : usO (suU u) = true ∧ usU (suU u) = u := by
  have e := usK_back h
  have e1 : usO (suU u) = true := by unfold usO; rw [e, h, eqB_self]; rfl
  exact ⟨e1, by unfold usU; rw [if_pos e1, e]⟩
/-- The text read back. -/
theorem rdK_back {u : Ur} (h : urQ u = true) : rdK (((u.ho ++ portB u.po) ++ u.pa) ++ qryB u.qu u.hq) = u := by
  have F := urlF h
  have hh := F.host
  obtain ⟨r, hr⟩ := path_split F.path
  have f63 : idxS 63 ((u.ho ++ portB u.po) ++ u.pa) = -1 := no_app (no_app (hst_no hh (by decide)) (port_no (by decide) (by decide))) (path_no F.path (by decide))
  have f47 : idxS 47 (u.ho ++ portB u.po) = -1 := no_app (hst_no hh (by decide)) (port_no (by decide) (by decide))
  obtain ⟨g1, g2, g3⟩ := query_back (f := (u.ho ++ portB u.po) ++ u.pa) (q := u.qu) (b := u.hq) f63 F.que
  have ea : auU (((u.ho ++ portB u.po) ++ u.pa) ++ qryB u.qu u.hq) = u.ho ++ portB u.po := by
    unfold auU
    rw [g1, hr, ← bytes_assoc]
    exact upt_mid f47
  have er : reU (((u.ho ++ portB u.po) ++ u.pa) ++ qryB u.qu u.hq) = u.pa ++ qryB u.qu u.hq := by
    unfold reU
    rw [ea, bytes_assoc (u.ho ++ portB u.po)]
    exact ext_app2 _ _
  obtain ⟨p1, p2⟩ := port_back (h := u.ho) (n := u.po) (hst_no hh (by decide)) F.p0 F.p1
  obtain ⟨q1, q2, q3⟩ := query_back (f := u.pa) (q := u.qu) (b := u.hq) (path_no F.path (by decide)) F.que
  have hz : ¬ u.pa.size = 0 := by
    have := (clnB_head F.path).1
    rw [F.cln] at this; omega
  unfold rdK
  rw [ea, er, p1, q1, g2, g3, if_neg hz, F.cln, fold_host hh]
  obtain ⟨ho, pa, qu, po, hq⟩ := u
  simp only at p2 ⊢
  rw [p2]
theorem rd_back {u : Ur} (h : urQ u = true) : rdO (utxt u.ho u.pa u.qu u.po u.hq) = true ∧ rdU (utxt u.ho u.pa u.qu u.po u.hq) = u := by
  have F := urlF h
  have hh := F.host
  have ef : utxt u.ho u.pa u.qu u.po u.hq = schB ++ (((u.ho ++ portB u.po) ++ u.pa) ++ qryB u.qu u.hq) := by
    unfold utxt
    rw [bytes_assoc schB, bytes_assoc schB, bytes_assoc schB]
  have e7 : (utxt u.ho u.pa u.qu u.po u.hq).extract 7 (utxt u.ho u.pa u.qu u.po u.hq).size = ((u.ho ++ portB u.po) ++ u.pa) ++ qryB u.qu u.hq := by
    rw [ef]; exact ext_app2 schB _
  have e0 : (utxt u.ho u.pa u.qu u.po u.hq).extract 0 7 = schB := by
    rw [ef]; exact ext_app1 schB _
  have hk := rdK_back h
  have hz := utxt_size u.ho u.pa u.qu u.po u.hq
  have q35 : idxS 35 (qryB u.qu u.hq) = -1 := by
    unfold qryB
    split
    · exact no_app (by kernel_rfl) F.q35
    · kernel_rfl
  have h35 : idxS 35 (utxt u.ho u.pa u.qu u.po u.hq) = -1 := by
    rw [ef]
    exact no_app (by kernel_rfl) (no_app (no_app (no_app (hst_no hh (by decide)) (port_no (by decide) (by decide))) (path_no F.path (by decide))) q35)
  have hA : rdA (utxt u.ho u.pa u.qu u.po u.hq) = true := by
    unfold rdA pre7
    rw [F.txt, h35, e0, decide_eq_true (by omega : 7 ≤ (utxt u.ho u.pa u.qu u.po u.hq).size)]
    have e3 : eqB (foldB schB) schB = true := by kernel_rfl
    rw [e3]; rfl
  have hO : rdO (utxt u.ho u.pa u.qu u.po u.hq) = true := by
    unfold rdO
    rw [hA, e7, hk, h]; rfl
  exact ⟨hO, by unfold rdU; rw [if_pos hO, e7, hk]⟩
end Go.Proofs.YtffjpidjhcnnmacGreatDoor
namespace Go.Proofs.YtffjpidjhcnnmacGreatDoor
set_option linter.unusedVariables false
set_option linter.unusedSimpArgs false
open Go.RowKit
theorem cell_newP (w : World) (c : Array Value) (t : TypeId) (Q : Int → Prop) (j : Nat) (z : Int) (h : c[j]? = some (.int .i64 z)) (hq : Q z) : ∃ z : Int, Q z ∧ (w.alloc (.cells c t)).cell? ⟨w.heap.size, j, none⟩ = some (.int .i64 z) :=
  ⟨z, hq, by simp only [World.cell?, heap_alloc_new]; exact h⟩
set_option maxHeartbeats 1000000 in
theorem l1PickInt_of (Q : Int → Prop) (p b n cap : Nat) (w : World) (hd : Drw w p) (hne : b ≠ p) (hc : ∀ j, j < n → ∃ z : Int, Q z ∧ w.cell? ⟨b, j, none⟩ = some (.int .i64 z)) (h0 : 0 < n) (h1 : n ≤ 1000) :
    Calls Tryz.prog 56 #[.pointer (some ⟨p, 0, none⟩), .slice (some ⟨b, 0, none⟩) n cap] w fun e w' => (∃ z : Int, Q z ∧ e = .returned (.int .i64 z)) ∧ Kp p w w' ∧ Drw w' p := by
  go_enter Tryz.func56, Tryz.ntmps56
  go_wp2_with fail
  refine (l1Below_any p (n : Int) _ hd (by omega)).mono ?_
  rintro e w1 ⟨⟨m, hm, _, _, rfl⟩, hk1, hd1⟩
  have hmn : (m : Int) < (n : Int) := hm (by omega)
  obtain ⟨z, hz1, hcz⟩ := hc m (by omega)
  have hcz1 := hk1.cell hcz hne
  have HZ := hideB2 hz1
  clear hc hcz hm hz1
  go_wp2
  go_ret
  exact ⟨⟨z, HZ.out, rfl⟩, hk1, hd1⟩
end Go.Proofs.YtffjpidjhcnnmacGreatDoor
namespace Go.Proofs.YtffjpidjhcnnmacGreatDoor
set_option linter.unusedVariables false
set_option linter.unusedSimpArgs false
open Go.RowKit
theorem blk_kp {p : Nat} {w w' : World} {b : Nat} {c : Array Value} {t : TypeId} (h : Blk w b c t) (k : Kp p w w') (hne : b ≠ p) : Blk w' b c t := by
  unfold Blk at *
  rw [k.block b (Array.getElem?_eq_some_iff.1 h).1 (fun e => by injection e with e; exact hne e)]
  exact h
end Go.Proofs.YtffjpidjhcnnmacGreatDoor
namespace Go.Proofs.YtffjpidjhcnnmacGreatDoor
set_option linter.unusedVariables false
set_option linter.unusedSimpArgs false
open Go.RowKit
/-- An address in a variable of the call's own, block g, while numbers are drawn; r is its result's block. -/
structure DU (p r g : Nat) (w wr : World) (c : Array Value) : Prop where
  blk : Blk wr g c 34
  res : Blk wr r #[.string ⟨#[]⟩, .int .i64 0, .string ⟨#[]⟩, .string ⟨#[]⟩, .bool false] 34
  st : Drw wr p
  kp : Kp p w wr
  rge : w.heap.size ≤ r
  ne2 : p < r
  ne3 : r < g
theorem DU.draw {p r g : Nat} {w wr w' : World} {c : Array Value} (h : DU p r g w wr c) (k : Kp p wr w') (hd : Drw w' p) : DU p r g w w' c :=
  ⟨blk_kp h.blk k (by have := h.ne2; have := h.ne3; omega), blk_kp h.res k (by have := h.ne2; omega), hd, h.kp.trans k, h.rge, h.ne2, h.ne3⟩
theorem DU.set {p r g : Nat} {w wr : World} {c : Array Value} (h : DU p r g w wr c) (j : Nat) (x : Value) : DU p r g w (wr.setCell ⟨g, j, none⟩ x) (c.setIfInBounds j x) :=
  ⟨h.blk.set j _, h.res.other (by have := h.ne3; omega) j _, h.st.setNew (by have := h.ne2; have := h.ne3; omega) j _, h.kp.setNew (by have := h.rge; have := h.ne3; omega) j _, h.rge, h.ne2, h.ne3⟩
theorem DU.later {p r g : Nat} {w wr w' : World} {c : Array Value} (h : DU p r g w wr c) (k : Below wr.heap.size wr w') : DU p r g w w' c :=
  ⟨h.blk.later k, h.res.later k, h.st.kept k, h.kp.trans (Kp.of_below k), h.rge, h.ne2, h.ne3⟩
theorem DU.alloc {p r g : Nat} {w wr : World} {c : Array Value} (h : DU p r g w wr c) (o : Obj) : DU p r g w (wr.alloc o) c := h.later (below_a1 wr o)
theorem DU.drew {p r g : Nat} {w wr : World} {c : Array Value} (h : DU p r g w wr c) : DU p r g w wr.drew c := h.later (Below.refl _ wr).drew
theorem kp_set5 {p r : Nat} {w wr : World} (h : Kp p w wr) (hr : w.heap.size ≤ r) (x0 x1 x2 x3 x4 : Value) : Kp p w (((((wr.setCell ⟨r, 0, none⟩ x0).setCell ⟨r, 1, none⟩ x1).setCell ⟨r, 2, none⟩ x2).setCell ⟨r, 3, none⟩ x3).setCell ⟨r, 4, none⟩ x4) :=
  ((((h.setNew hr 0 x0).setNew hr 1 x1).setNew hr 2 x2).setNew hr 3 x3).setNew hr 4 x4
theorem drw_set5 {p r : Nat} {wr : World} (h : Drw wr p) (hr : p < r) (x0 x1 x2 x3 x4 : Value) : Drw (((((wr.setCell ⟨r, 0, none⟩ x0).setCell ⟨r, 1, none⟩ x1).setCell ⟨r, 2, none⟩ x2).setCell ⟨r, 3, none⟩ x3).setCell ⟨r, 4, none⟩ x4) p :=
  ((((h.setNew hr 0 x0).setNew hr 1 x1).setNew hr 2 x2).setNew hr 3 x3).setNew hr 4 x4
theorem rdU_room (s : ByteArray) : (utxt (rdU s).ho (rdU s).pa (rdU s).qu (rdU s).po (rdU s).hq).size ≤ 199 + (rdU s).pa.size := by
  cases h : rdO s
  · have e : rdU s = ur0 := by unfold rdU; rw [if_neg (by rw [h]; decide)]
    rw [e]
    exact of_decide_eq_true (by kernel_rfl)
  · have hu : urQ (rdU s) = true := by
      unfold rdU
      rw [if_pos h]
      unfold rdO at h
      rw [Bool.and_eq_true] at h
      exact h.2
    have F := urlF hu
    have ht := (targQ_iff.1 F.txt).2.1
    obtain ⟨r, hr⟩ := path_split F.path
    have hp : 1 ≤ (rdU s).pa.size := by rw [hr, ByteArray.size_append]; show 1 ≤ 1 + r.size; omega
    omega
set_option maxRecDepth 100000 in
set_option maxHeartbeats 1000000 in
theorem l7draw_any (p : Nat) (w : World) (hd : Drw w p) :
    Calls Tryz.prog 33 #[.pointer (some ⟨p, 0, none⟩)] w fun e w' => (∃ (ho pa qu : ByteArray) (po : Int) (hq : Bool), (ho.size ≤ 1000 ∧ pa.size ≤ 1000 ∧ qu.size ≤ 1000) ∧ e = .returned (.agg #[.string ho, .int .i64 po, .string pa, .string qu, .bool hq])) ∧ Kp p w w' ∧ Drw w' p := by
  have R0 := Blk.new w #[.string ⟨#[]⟩, .int .i64 0, .string ⟨#[]⟩, .string ⟨#[]⟩, .bool false] 34
  have hd0 := hd.alloc (.cells #[.string ⟨#[]⟩, .int .i64 0, .string ⟨#[]⟩, .string ⟨#[]⟩, .bool false] 34)
  have k0 := (Kp.refl p w).alloc (.cells #[.string ⟨#[]⟩, .int .i64 0, .string ⟨#[]⟩, .string ⟨#[]⟩, .bool false] 34)
  have hpw := hd.lt
  go_enter Tryz.func33, Tryz.ntmps33
  go_wp2_with fail
  generalize w.alloc (.cells #[.string ⟨#[]⟩, .int .i64 0, .string ⟨#[]⟩, .string ⟨#[]⟩, .bool false] 34) = W at *
  refine (l7url_any p _ hd0).mono ?_
  rintro e w1 ⟨⟨s, hs, rfl⟩, hk1, hd1⟩
  have R1 := blk_kp R0 hk1 (by omega)
  have k1 := k0.trans hk1
  obtain ⟨z1, z2, z3⟩ := rdU_sizes s
  have hroom := rdU_room s
  have HRU := hideB2 (fun W => sReadUrl_any s W (by omega))
  generalize rdU s = u at *
  obtain ⟨ho, pa, qu, po, hq⟩ := u
  simp only [valU] at HRU
  simp only at z1 z2 z3 hroom
  generalize rdO s = O at *
  clear R0 k0 hd0 hk1 hd
  go_wp2_with fail
  refine (HRU.out _).mono ?_
  rintro e w2 ⟨rfl, hb2⟩
  have V2 : DU p w.heap.size w2.heap.size w (w2.alloc (.cells #[.string ho, .int .i64 po, .string pa, .string qu, .bool hq] 34)) #[.string ho, .int .i64 po, .string pa, .string qu, .bool hq] :=
    ⟨Blk.new w2 _ _, (R1.later hb2).alloc _, (hd1.kept hb2).alloc _, (k1.trans (Kp.of_below hb2)).alloc _, Nat.le_refl _, hpw, (R1.later hb2).lt⟩
  clear R1 k1 hd1 hb2 HRU
  go_wp2_with fail
  generalize w2.alloc (.cells #[.string ho, .int .i64 po, .string pa, .string qu, .bool hq] 34) = W2 at *
  generalize w2.heap.size = g at *
  refine (l1Once_any p 4 _ V2.st (by omega)).mono ?_
  rintro e w3 ⟨⟨b, rfl⟩, hk3, hd3⟩
  have V3 := V2.draw hk3 hd3
  clear V2 hk3 hd3
  cases b
  · obtain ⟨q0, q1, q2, q3, q4⟩ := V3.blk.u5
    obtain ⟨r0, r1, r2, r3, r4⟩ := V3.res.u5
    obtain ⟨f0, f1, f2, f3, f4⟩ := V3.res.f5U
    have n3 := V3.ne3
    have HV := hideB2 V3
    clear V3
    go_wp2
    refine bodyPost_ret (results_cellS rfl _ _ _ rfl (HV.out.res.set5U _ _ _ _ _) Tryz.underlying34 Tryz.infoUrl) rfl ⟨⟨_, _, _, _, _, ⟨by omega, by omega, by omega⟩, rfl⟩, kp_set5 HV.out.kp HV.out.rge _ _ _ _ _, drw_set5 HV.out.st HV.out.ne2 _ _ _ _ _⟩
  · go_wp2_with fail
    refine (l1Below_any p 7 _ V3.st (by omega)).mono ?_
    rintro e w4 ⟨⟨n, hn, _, _, rfl⟩, hk4, hd4⟩
    have hn7 : n < 7 := by have := hn (by omega); omega
    have V4 := V3.draw hk4 hd4
    clear V3 hk4 hd4 hn
    have hc : n = 0 ∨ n = 1 ∨ n = 2 ∨ n = 3 ∨ n = 4 ∨ n = 5 ∨ n = 6 := by omega
    rcases hc with rfl | rfl | rfl | rfl | rfl | rfl | rfl
    · obtain ⟨q0, q1, q2, q3, q4⟩ := V4.blk.u5
      go_wp2_with fail
      refine (l1bend_any p ho _ V4.st (by omega)).mono ?_
      rintro e w5 ⟨⟨t, ht, rfl⟩, hk5, hd5⟩
      have V5 := V4.draw hk5 hd5
      have V6 : DU p w.heap.size g w (w5.setCell ⟨g, 0, none⟩ (.string t)) #[.string t, .int .i64 po, .string pa, .string qu, .bool hq] := V5.set 0 _
      clear q0 q1 q2 q3 q4 V4 hk5 hd5
      obtain ⟨q0, q1, q2, q3, q4⟩ := V5.blk.u5
      have g0 := V5.blk.free 0
      obtain ⟨r0, r1, r2, r3, r4⟩ := V5.res.u5
      obtain ⟨f0, f1, f2, f3, f4⟩ := V5.res.f5U
      have n3 := V5.ne3
      have HV := hideB2 V6
      clear V5 V6
      go_wp2
      refine bodyPost_ret (results_cellS rfl _ _ _ rfl (HV.out.res.set5U _ _ _ _ _) Tryz.underlying34 Tryz.infoUrl) rfl ⟨⟨_, _, _, _, _, ⟨by omega, by omega, by omega⟩, rfl⟩, kp_set5 HV.out.kp HV.out.rge _ _ _ _ _, drw_set5 HV.out.st HV.out.ne2 _ _ _ _ _⟩
    · have hpl := V4.st.lt
      go_wp2_with fail
      refine (l1PickInt_of (fun _ => True) p _ 5 5 _ (V4.st.alloc _) (by omega) ?_ (by omega) (by omega)).mono ?_
      · intro j hj
        rcases j with _ | _ | _ | _ | _ | j
        all_goals first | omega | exact ⟨_, trivial, (Blk.new w4 _ _).cell _⟩
      rintro e w5 ⟨⟨z, _, rfl⟩, hk5, hd5⟩
      have V5 := (V4.alloc _).draw hk5 hd5
      have V6 : DU p w.heap.size g w (w5.setCell ⟨g, 1, none⟩ (.int .i64 z)) #[.string ho, .int .i64 z, .string pa, .string qu, .bool hq] := V5.set 1 _
      clear V4 hk5 hd5
      obtain ⟨q0, q1, q2, q3, q4⟩ := V5.blk.u5
      have g0 := V5.blk.free 1
      obtain ⟨r0, r1, r2, r3, r4⟩ := V5.res.u5
      obtain ⟨f0, f1, f2, f3, f4⟩ := V5.res.f5U
      have n3 := V5.ne3
      have HV := hideB2 V6
      clear V5 V6
      go_wp2
      refine bodyPost_ret (results_cellS rfl _ _ _ rfl (HV.out.res.set5U _ _ _ _ _) Tryz.underlying34 Tryz.infoUrl) rfl ⟨⟨_, _, _, _, _, ⟨by omega, by omega, by omega⟩, rfl⟩, kp_set5 HV.out.kp HV.out.rge _ _ _ _ _, drw_set5 HV.out.st HV.out.ne2 _ _ _ _ _⟩
    · go_wp2_with fail
      refine (l7path_any p _ V4.st).mono ?_
      rintro e w5 ⟨⟨t, ht, rfl⟩, hk5, hd5⟩
      have V5 := V4.draw hk5 hd5
      have V6 : DU p w.heap.size g w (w5.setCell ⟨g, 2, none⟩ (.string t)) #[.string ho, .int .i64 po, .string t, .string qu, .bool hq] := V5.set 2 _
      clear V4 hk5 hd5
      obtain ⟨q0, q1, q2, q3, q4⟩ := V5.blk.u5
      have g0 := V5.blk.free 2
      obtain ⟨r0, r1, r2, r3, r4⟩ := V5.res.u5
      obtain ⟨f0, f1, f2, f3, f4⟩ := V5.res.f5U
      have n3 := V5.ne3
      have HV := hideB2 V6
      clear V5 V6
      go_wp2
      refine bodyPost_ret (results_cellS rfl _ _ _ rfl (HV.out.res.set5U _ _ _ _ _) Tryz.underlying34 Tryz.infoUrl) rfl ⟨⟨_, _, _, _, _, ⟨by omega, by omega, by omega⟩, rfl⟩, kp_set5 HV.out.kp HV.out.rge _ _ _ _ _, drw_set5 HV.out.st HV.out.ne2 _ _ _ _ _⟩
    · have V6 : DU p w.heap.size g w (w4.setCell ⟨g, 3, none⟩ (.string ⟨#[113]⟩)) #[.string ho, .int .i64 po, .string pa, .string ⟨#[113]⟩, .bool hq] := V4.set 3 _
      obtain ⟨q0, q1, q2, q3, q4⟩ := V4.blk.u5
      have g0 := V4.blk.free 3
      obtain ⟨r0, r1, r2, r3, r4⟩ := V4.res.u5
      obtain ⟨f0, f1, f2, f3, f4⟩ := V4.res.f5U
      have n3 := V4.ne3
      have HV := hideB2 V6
      clear V4 V6
      go_wp2
      refine bodyPost_ret (results_cellS rfl _ _ _ rfl (HV.out.res.set5U _ _ _ _ _) Tryz.underlying34 Tryz.infoUrl) rfl ⟨⟨_, _, _, _, _, ⟨by omega, by omega, by decide⟩, rfl⟩, kp_set5 HV.out.kp HV.out.rge _ _ _ _ _, drw_set5 HV.out.st HV.out.ne2 _ _ _ _ _⟩
    · have V6 : DU p w.heap.size g w (w4.setCell ⟨g, 4, none⟩ (.bool (!hq))) #[.string ho, .int .i64 po, .string pa, .string qu, .bool (!hq)] := V4.set 4 _
      obtain ⟨q0, q1, q2, q3, q4⟩ := V4.blk.u5
      have g0 := V4.blk.free 4
      obtain ⟨r0, r1, r2, r3, r4⟩ := V4.res.u5
      obtain ⟨f0, f1, f2, f3, f4⟩ := V4.res.f5U
      have n3 := V4.ne3
      have HV := hideB2 V6
      clear V4 V6
      go_wp2
      refine bodyPost_ret (results_cellS rfl _ _ _ rfl (HV.out.res.set5U _ _ _ _ _) Tryz.underlying34 Tryz.infoUrl) rfl ⟨⟨_, _, _, _, _, ⟨by omega, by omega, by omega⟩, rfl⟩, kp_set5 HV.out.kp HV.out.rge _ _ _ _ _, drw_set5 HV.out.st HV.out.ne2 _ _ _ _ _⟩
    · have HTX := hideB2 (fun W => l7text_any ho pa qu po hq W (by omega) (by omega) (by omega))
      generalize hT : (utxt ho pa qu po hq).size = T at *
      generalize utxt ho pa qu po hq = X at *
      have HV4 := hideB2 V4
      obtain ⟨q0, q1, q2, q3, q4⟩ := V4.blk.u5
      clear V4
      go_wp2_with fail
      go_region_with (first
        | (go_at_call 38; refine (HTX.out _).mono ?_; rintro e w5 ⟨rfl, hb5⟩; have V5 : DU p w.heap.size g w w5 #[.string ho, .int .i64 po, .string pa, .string qu, .bool hq] := (by first | exact HV4.out.drew.later hb5 | exact HV4.out.later hb5); obtain ⟨u0, u1, u2, u3, u4⟩ := V5.blk.u5; have HV5 := hideB2 V5; clear V5)
        | (go_at_call 54; refine (l1Below_any p 2 _ HV5.out.st (by omega)).mono ?_; rintro e w6 ⟨⟨m, hm, _, _, rfl⟩, hk6, hd6⟩; have hm2 : m < 2 := (by have := hm (by omega); omega); have V6 := HV5.out.draw hk6 hd6; obtain ⟨v0, v1, v2, v3, v4⟩ := V6.blk.u5; have HV6 := hideB2 V6; have t4 : IntKind.i64.wrap (IntKind.i64.wrap (IntKind.i64.wrap (IntKind.i64.wrap (200 - (T : Int)) + (pa.size : Int)) - 1) + (m : Int)) = ((199 + pa.size - T + m : Nat) : Int) := (by simp only [IntKind.wrap_i64]; omega); clear V6 hk6 hd6 hm)
        | (go_at_call 57; first | rw [t4] | rw [← Int.natCast_add (199 + pa.size - T) m] | rw [← Int.ofNat_add (199 + pa.size - T) m] | skip; refine (l1of_any p (199 + pa.size - T + m) _ _ HV6.out.st (by omega) (by decide) (by decide)).mono ?_; rintro e w7 ⟨⟨l, hl, _, rfl⟩, hk7, hd7⟩; have V7 := HV6.out.draw hk7 hd7; have hzl : (ByteArray.mk l.toArray).size ≤ 600 := (by show l.toArray.size ≤ 600; simp; omega); have g0 := V7.blk.free 2; obtain ⟨w0', w1', w2', w3', w4'⟩ := V7.blk.u5; have HV7 := hideB2 V7; clear V7 hk7 hd7; generalize ByteArray.mk l.toArray = t at *))
      all_goals
        have V7 := HV7.out
        have V8 : DU p w.heap.size g w (w7.setCell ⟨g, 2, none⟩ (.string (⟨#[47]⟩ ++ t))) #[.string ho, .int .i64 po, .string (⟨#[47]⟩ ++ t), .string qu, .bool hq] := V7.set 2 _
        have hz47 : ((⟨#[47]⟩ : ByteArray) ++ t).size ≤ 601 := by rw [ByteArray.size_append]; show 1 + t.size ≤ 601; omega
        clear q0 q1 q2 q3 q4 u0 u1 u2 u3 u4 v0 v1 v2 v3 v4 HV4 HV5 HV6 HV7 HTX t4
        have g0 := V7.blk.free 2
        obtain ⟨r0, r1, r2, r3, r4⟩ := V7.res.u5
        obtain ⟨f0, f1, f2, f3, f4⟩ := V7.res.f5U
        have n3 := V7.ne3
        have HV := hideB2 V8
        clear V7 V8
        generalize (⟨#[47]⟩ : ByteArray) ++ t = tt at *
        go_wp2
        refine bodyPost_ret (results_cellS rfl _ _ _ rfl (HV.out.res.set5U _ _ _ _ _) Tryz.underlying34 Tryz.infoUrl) rfl ⟨⟨_, _, _, _, _, ⟨by omega, by omega, by omega⟩, rfl⟩, kp_set5 HV.out.kp HV.out.rge _ _ _ _ _, drw_set5 HV.out.st HV.out.ne2 _ _ _ _ _⟩
    · go_wp2_with fail
      refine (l1Below_any p 2 _ V4.st (by omega)).mono ?_
      rintro e w5 ⟨⟨m, hm, _, _, rfl⟩, hk5, hd5⟩
      have hm2 : m < 2 := by have := hm (by omega); omega
      have V5 := V4.draw hk5 hd5
      clear V4 hk5 hd5 hm
      have e1 : IntKind.i64.wrap (60 + (m : Int)) = ((m + 60 : Nat) : Int) := by rw [IntKind.wrap_i64]; omega
      have e2 : (60 : Int) + (m : Int) = ((m + 60 : Nat) : Int) := by omega
      go_wp2_with fail
      first | rw [e2] | skip
      refine (l1of_any p (m + 60) _ _ V5.st (by omega) (by decide) (by decide)).mono ?_
      rintro e w6 ⟨⟨l, hl, _, rfl⟩, hk6, hd6⟩
      have hzl : (ByteArray.mk l.toArray).size ≤ 61 := by show l.toArray.size ≤ 61; simp; omega
      generalize ByteArray.mk l.toArray = t at *
      have V6 := V5.draw hk6 hd6
      have V7 : DU p w.heap.size g w (w6.setCell ⟨g, 0, none⟩ (.string t)) #[.string t, .int .i64 po, .string pa, .string qu, .bool hq] := V6.set 0 _
      clear V5 hk6 hd6 hl
      obtain ⟨q0, q1, q2, q3, q4⟩ := V6.blk.u5
      have g0 := V6.blk.free 0
      obtain ⟨r0, r1, r2, r3, r4⟩ := V6.res.u5
      obtain ⟨f0, f1, f2, f3, f4⟩ := V6.res.f5U
      have n3 := V6.ne3
      have HV := hideB2 V7
      clear V6 V7
      go_wp2
      refine bodyPost_ret (results_cellS rfl _ _ _ rfl (HV.out.res.set5U _ _ _ _ _) Tryz.underlying34 Tryz.infoUrl) rfl ⟨⟨_, _, _, _, _, ⟨by omega, by omega, by omega⟩, rfl⟩, kp_set5 HV.out.kp HV.out.rge _ _ _ _ _, drw_set5 HV.out.st HV.out.ne2 _ _ _ _ _⟩
end Go.Proofs.YtffjpidjhcnnmacGreatDoor
namespace Go.Proofs.YtffjpidjhcnnmacGreatDoor
set_option linter.unusedVariables false
set_option linter.unusedSimpArgs false
open Go.RowKit
def plS : ByteArray := ⟨#[72, 84, 84, 80, 58, 47, 47, 65, 46, 98, 47, 120, 47, 46, 46, 47, 121, 63, 122]⟩
set_option maxRecDepth 100000 in
theorem pl_ok : rdO plS = true := by kernel_rfl
set_option maxRecDepth 100000 in
theorem pl_ur : rdU plS = ⟨⟨#[97, 46, 98]⟩, ⟨#[47, 121]⟩, ⟨#[122]⟩, 80, true⟩ := by kernel_rfl
set_option maxRecDepth 100000 in
theorem pl_q : urlQ ⟨#[97, 46, 98]⟩ ⟨#[47, 121]⟩ ⟨#[122]⟩ 80 true = true := by kernel_rfl
theorem pl_t : utxt ⟨#[97, 46, 98]⟩ ⟨#[47, 121]⟩ ⟨#[122]⟩ 80 true = ⟨#[104, 116, 116, 112, 58, 47, 47, 97, 46, 98, 47, 121, 63, 122]⟩ := by kernel_rfl
theorem pl_s : surtB ⟨#[97, 46, 98]⟩ ⟨#[47, 121]⟩ ⟨#[122]⟩ 80 true = ⟨#[98, 44, 97, 41, 47, 121, 63, 122]⟩ := by kernel_rfl
end Go.Proofs.YtffjpidjhcnnmacGreatDoor
namespace Go.Proofs.YtffjpidjhcnnmacGreatDoor
set_option linter.unusedVariables false
set_option linter.unusedSimpArgs false
open Go.RowKit
set_option maxRecDepth 100000 in
set_option maxHeartbeats 4000000 in
theorem places_any (w : World) (htab : Tab10 w) :
    Calls Tryz.prog 16 #[] w fun e w' => e = .returned (.bool true) ∧ Below w.heap.size w w' := by
  have HR := hideB2 (fun W (h : Tab10 W) => ReadUrl_any plS W (by decide) h)
  rw [pl_ok, pl_ur] at HR
  simp only [valU] at HR
  have HT := hideB2 htab
  have HX := hideB2 (fun W (h : Tab10 W) => UrlText_any ⟨#[97, 46, 98]⟩ ⟨#[47, 121]⟩ ⟨#[122]⟩ 80 true W h (by decide) (by decide) (by decide))
  have HS := hideB2 (fun W (h : Tab10 W) => Surt_any ⟨#[97, 46, 98]⟩ ⟨#[47, 121]⟩ ⟨#[122]⟩ 80 true W h (by decide) (by decide) (by decide))
  rw [show textB ⟨#[97, 46, 98]⟩ ⟨#[47, 121]⟩ ⟨#[122]⟩ 80 true = ⟨#[104, 116, 116, 112, 58, 47, 47, 97, 46, 98, 47, 121, 63, 122]⟩ from by unfold textB; rw [pl_q, if_pos rfl, pl_t]] at HX
  rw [pl_s] at HS
  clear htab
  have e1 : (⟨#[104, 116, 116, 112, 58, 47, 47, 97, 46, 98, 47, 121, 63, 122]⟩ : ByteArray) = ⟨#[104, 116, 116, 112, 58, 47, 47, 97, 46, 98, 47, 121, 63, 122]⟩ := rfl
  generalize hA : (⟨#[97, 46, 98]⟩ : ByteArray) = ho at *
  generalize hB : (⟨#[47, 121]⟩ : ByteArray) = pa at *
  generalize hC : (⟨#[122]⟩ : ByteArray) = qu at *
  generalize hP : (80 : Int) = po at *
  generalize hQ : true = hq at *
  clear hA hB hC hP
  go_enter Tryz.func16, Tryz.ntmps16
  go_wp2_with fail
  refine (HR.out _ HT.out).mono ?_
  rintro e w1 ⟨rfl, hb1⟩
  have hb1' := below_then hb1 (below_a1 w1 (.cells #[.string ho, .int .i64 po, .string pa, .string qu, .bool hq] 34))
  have HB1 := hideB2 hb1'
  have A1 := hideB2 (Blk.new w1 #[.string ho, .int .i64 po, .string pa, .string qu, .bool hq] 34)
  clear hb1 hb1'
  subst hQ
  go_wp2_with (first
    | (go_at_call 14; refine (HX.out _ (tab_later HT.out HB1.out)).mono ?_; rintro e w2 ⟨rfl, hb2⟩; obtain ⟨p0, p1, p2, p3, p4⟩ := (A1.out.later hb2).u5)
    | (go_at_call 15; refine (HS.out _ (tab_later HT.out (below_then HB1.out hb2))).mono ?_; rintro e w3 ⟨rfl, hb3⟩))
  go_ret
  exact ⟨rfl, below_then HB1.out (below_then hb2 hb3)⟩
end Go.Proofs.YtffjpidjhcnnmacGreatDoor
namespace Go.Proofs.YtffjpidjhcnnmacGreatDoor
set_option linter.unusedVariables false
set_option linter.unusedSimpArgs false
open Go.RowKit
theorem ssK_form (s : ByteArray) : ssK s = ⟨turnS (uptS 58 (uptS 41 s)) 44 46, uptS 63 (bhS 41 s), bhS 63 (bhS 41 s), if hasS 58 (uptS 41 s) = true then rdecN (bhS 58 (uptS 41 s)) else 80, hasS 63 (bhS 41 s)⟩ := by
  simp only [ssK, usT, hoS]
theorem us_no {s : ByteArray} (h : ¬ (s.size ≤ 200 ∧ hasS 41 s = true ∧ suU (ssK s) = s ∧ s ≠ ⟨#[]⟩)) : usO s = false ∧ usU s = ur0 := by
  have h1 : usO s = false := by
    cases ho : usO s with
    | false => rfl
    | true => exact absurd ((us_same s).1.2 ho) h
  exact ⟨h1, by unfold usU; rw [if_neg (by rw [h1]; simp)]⟩
theorem us_yes {s : ByteArray} (h : s.size ≤ 200 ∧ hasS 41 s = true ∧ suU (ssK s) = s ∧ s ≠ ⟨#[]⟩) : usO s = true ∧ usU s = ssK s := by
  have h1 := (us_same s).1.1 h
  exact ⟨h1, by unfold usU; rw [if_pos h1, (us_same s).2 h1]⟩
theorem ext_rest {s e : ByteArray} {n k : Nat} (h : s.extract n s.size = e) (hn : n + k ≤ s.size) : (s.extract (n + k) s.size).extract 1 (s.extract (n + k) s.size).size = e.extract (k + 1) e.size := by
  subst h
  have h1 : (s.extract (n + k) s.size).size = s.size - (n + k) := by rw [ByteArray.size_extract]; omega
  have h2 : (s.extract n s.size).size = s.size - n := by rw [ByteArray.size_extract]; omega
  rw [h1, h2, ByteArray.extract_extract, ByteArray.extract_extract]
  exact ext_congr (by omega) (by omega)
theorem turnS_size (h : ByteArray) (c d : UInt8) : (turnS h c d).size ≤ 2 * h.size + 1 := by
  have h1 := trnF_size d (splS c h).reverse
  have h2 := splS_le c h
  rw [List.length_reverse, sumS_rev] at h1
  unfold turnS
  omega
end Go.Proofs.YtffjpidjhcnnmacGreatDoor
namespace Go.Proofs.YtffjpidjhcnnmacGreatDoor
set_option linter.unusedVariables false
set_option linter.unusedSimpArgs false
open Go.ChangeShapes Go.WideShapes Go.ChangeAt Go.RowKit
theorem code_of {w : World} {a : Option Addr} {len cap : Nat} {zs : List Int} (h : IsRow .u8 w a len cap zs) : Code w a len := by
  rcases h with ⟨rfl, rfl, rfl, rfl⟩ | ⟨x, rfl, hl, hm, hz, hcell, hwf⟩
  · exact ⟨Or.inl rfl, by unfold maxLen; omega⟩
  · refine ⟨?_, Nat.le_trans hl hm⟩
    by_cases h0 : len = 0
    · exact Or.inl h0
    · right
      obtain ⟨b, off, spot⟩ := x
      have hc := hcell 0 (by omega)
      have hspot : spot = none := by simpa [Addr.add] using World.cell?_spot hc
      subst hspot
      refine ⟨b, off, rfl, ?_, fun i hi => ?_⟩
      · have := World.block_lt_of_cell? _ _ hc
        simpa [Addr.add] using this
      · have hci := hcell i (by omega)
        rw [Addr.add_lit] at hci
        have hmem : zs.getD i 0 ∈ zs := by
          have hi' : i < zs.length := by omega
          rw [List.getD, List.getElem?_eq_getElem hi']
          exact List.getElem_mem hi'
        have hb := bounds_u8 (hwf _ hmem)
        exact ⟨(zs.getD i 0).toNat, by omega, by rw [hci]; congr 2; omega⟩
end Go.Proofs.YtffjpidjhcnnmacGreatDoor
namespace Go.Proofs.YtffjpidjhcnnmacGreatDoor
set_option linter.unusedVariables false
set_option linter.unusedSimpArgs false
open Go.ChangeShapes Go.WideShapes Go.ChangeAt Go.RowKit

/-- A block's cells, laid anew. -/
def laidRow (cs : Array Value) : Obj → Obj
  | .cells _ t frozen => .cells cs t frozen
  | o => o
theorem laid_mem {P : Program} {w : World} : ∀ {l : List (String × DataW Unit)} {ps : List MemPlace}, DataW.LaidVars P w l ps → ∀ (n : String) (d : DataW Unit), (n, d) ∈ l →
    ∃ g t cs fuel p, P.globalNamed n = some g ∧ (P.globals[g]?).map (·.type) = some t ∧ w.var? P n = some cs ∧ DataW.trod (fun _ => ()) P w 0 (fun _ => true) false fuel t cs.toList = some (d, p)
  | [], _, _, n, d, hm => by simp at hm
  | (n0, d0) :: r, ps, h, n, d, hm => by
    obtain ⟨g, t, cs, fuel, p, q, h1, h2, h3, h4, h5, _⟩ := h
    rcases List.mem_cons.1 hm with e | e
    · cases e
      exact ⟨g, t, cs, fuel, p, h1, h2, h3, h4⟩
    · exact laid_mem h5 n d e
end Go.Proofs.YtffjpidjhcnnmacGreatDoor
namespace Go.Proofs.YtffjpidjhcnnmacGreatDoor
set_option linter.unusedVariables false
set_option linter.unusedSimpArgs false
open Go.ChangeShapes Go.WideShapes Go.ChangeAt Go.RowKit
theorem dectab_of_laid {W : World} {l : List (String × DataW Unit)} (hm : ("internal/strconv.uint64pow10", Rows.laid_internal_strconv_uint64pow10) ∈ l) (h : laidMet Tryz.prog l W) : Tab10 W := by
  obtain ⟨ps, hl, _⟩ := h
  obtain ⟨g, t, cs, fuel, p, h1, h2, h3, h4⟩ := laid_mem hl _ _ hm
  have hg : Tryz.prog.globalNamed "internal/strconv.uint64pow10" = some 3 := by kernel_rfl
  have ht : (Tryz.prog.globals[3]?).map (·.type) = some 235 := by kernel_rfl
  obtain rfl := Option.some.inj (hg.symm.trans h1)
  obtain rfl := Option.some.inj (ht.symm.trans h2)
  have hc := Lib.cells_of_tab (k := .u64) (zs := Lib.pow10Tab) Tryz.underlying235 Tryz.underlying218 (by kernel_rfl) (by kernel_rfl) h4
  unfold Tab10 Lib.TabIs
  rw [h3, ← hc]
end Go.Proofs.YtffjpidjhcnnmacGreatDoor
