/-
  The walks over chapter 1: ReadDec. · Chapter 6: an answer's first line, on lists. No Go in sight. · Chapter 6: a head and a message as they are read, on lists. No Go in sight. · A region that draws its order, whose first operations leave the world inside a class of worlds (they read; their callees may draw, or make memory of their own) and whose last ones wait for all of these (a store): one walk in the order of the text serves every order. Leans on the library's lemmas on 'qOp', 'HeadInv' and 'wpAny_of_seq'. · The class of the worlds that have grown out of one: for regions that draw their order and whose callees make memory of their own. · The marks of the exact laws: their texts; worlds that have grown but for one block. · What the exact laws do with fields: marks, and whether they are held. · The exact laws' marks over rows of texts. · Rows of texts that are written to: marks; what the exact laws do with them. · Chapter 5: rows of fields of the call's own; counts by name in a map. The program's side of Without. · Chapter 5: those that do not have a name; one put in. Both sides. · Chapter 5: Without, the specification's side; With, both sides.
-/
import Derived.Test.YtodandipfjamnaaGreatDoorJ1
import Derived.Test.YtodandipfjamnaaGreatDoorJ2
import Derived.StillTail
import Derived.Deep.Quiet
import Derived.BigQuiet
import Derived.Test.YtodandipfjamnaaGreatDoorJ0
import Derived.Lib.ConvBytes
import Derived.Lib.SmallJoins
import Derived.Deep.RegionWith
import Derived.Deep.QuietTactic
import Derived.Maps.OwnOps
import Derived.Maps.OwnSet
import Derived.Deep.AppendLies
import Derived.Deep.DeepCutAuto
namespace Go.Proofs.YtodandipfjamnaaGreatDoor
set_option linter.unusedVariables false
set_option linter.unusedSimpArgs false
open Go.RowKit

def rdecN (s : ByteArray) : Int := ((rdec s).getD 0 : Nat)
def rdecOk (s : ByteArray) : Bool := (rdec s).isSome
theorem rdec_none {s : ByteArray} (h : rdec s = none) : rdecN s = 0 ∧ rdecOk s = false := by simp [rdecN, rdecOk, h]
theorem rdec_some {s : ByteArray} {u : Nat} (h : rdec s = some u) : rdecN s = (u : Int) ∧ rdecOk s = true := by simp [rdecN, rdecOk, h]
theorem ret_ib {k : IntKind} {n m : Int} {a b : Bool} (h : m = n) (h' : b = a) : Ending.returned (.tuple #[.int k n, .bool a]) = .returned (.tuple #[.int k m, .bool b]) := by rw [h, h']

set_option maxHeartbeats 1000000 in
theorem sReadDec_any (s : ByteArray) (w : World) (hs : s.size ≤ maxLen) :
    Calls Tryz.prog 74 #[.string s] w fun e w' => e = .returned (.tuple #[.int .i64 (rdecN s), .bool (rdecOk s)]) ∧ Below w.heap.size w w' := by
  unfold maxLen at hs
  by_cases h0 : s.size = 0
  · have hr := rdec_none (rdec_size s (Or.inl h0))
    have hne : ((s.size : Int) == 0) = true := by rw [beq_iff_eq]; omega
    rw [hr.1, hr.2]
    clear hr
    go_enter Tryz.func74, Tryz.ntmps74
    go_wp2
    go_ret2
    exact ⟨rfl, Below.refl _ _⟩
  · have hne2 : ((s.size : Int) == 0) = false := by rw [Bool.eq_false_iff, ne_eq, beq_iff_eq]; omega
    by_cases hbig : (15 : Int) < (s.size : Int)
    · have hr := rdec_none (rdec_size s (Or.inr (by omega)))
      rw [hr.1, hr.2]
      clear hr
      go_enter Tryz.func74, Tryz.ntmps74
      go_wp2
      go_ret2
      exact ⟨rfl, Below.refl _ _⟩
    · go_enter Tryz.func74, Tryz.ntmps74
      go_wp2
      clear hne2
      go_loop [4, 5] (fun n i => ∃ k : Nat, k ≤ s.size ∧ i = .int .i64 k ∧ n = .int .i64 (valL (s.data.toList.take k) : Nat) ∧ allDig (s.data.toList.take k) = true) (fun _ i => s.size - (intOf i).toNat)
      case atStart => exact ⟨0, Nat.zero_le _, rfl, rfl, rfl⟩
      case round =>
        obtain ⟨k, hk, rfl, rfl, hall⟩ := hrel
        have Hall : Hid (allDig (s.data.toList.take k) = true) := hall
        have hvl : valL (s.data.toList.take k) < 1000000000000000 := by
          have h1 := valL_lt _ hall
          have h3 : 10 ^ (s.data.toList.take k).length ≤ 10 ^ 15 := Nat.pow_le_pow_right (by decide) (by simp; omega)
          have h4 : (10 : Nat) ^ 15 = 1000000000000000 := by decide
          omega
        clear hall
        by_cases hlt : k < s.size
        · cases hg0 : dig8 (at8 s k)
          · have hg : digP (s[k].toNat : Int) = false := by rw [at8_eq s k hlt]; exact hg0
            have hfin : Hid (rdecN s = 0 ∧ rdecOk s = false) := rdec_none (rdec_nodig s k hlt hg0)
            clear hg0
            go_wp2_with (go_at_call 110; refine (l1digit_any _ _).mono ?_; rintro e w' ⟨rfl, rfl⟩)
            go_ret2
            exact ⟨ret_ib hfin.out.1 hfin.out.2, Below.refl _ _⟩
          · have hg : digP (s[k].toNat : Int) = true := by rw [at8_eq s k hlt]; exact hg0
            have hb := (dig8_iff _).1 hg0
            have hval : Hid (valL (s.data.toList.take (k + 1)) = valL (s.data.toList.take k) * 10 + (s[k].toNat - 48)) := by
              show _ = _
              rw [allDig_take_succ s k hlt, valL_snoc, at8_eq s k hlt]
            have Hall2 : Hid (allDig (s.data.toList.take (k + 1)) = true) := by
              show _ = _
              rw [allDig_take_succ s k hlt]; exact allDig_snoc _ _ Hall.out hg0
            have hb1 : 48 ≤ s[k].toNat := by rw [at8_eq s k hlt]; exact hb.1
            have hb2 : s[k].toNat ≤ 57 := by rw [at8_eq s k hlt]; exact hb.2
            clear hg0 hb
            generalize valL (s.data.toList.take k) = v at *
            go_wp2_with (go_at_call 110; refine (l1digit_any _ _).mono ?_; rintro e w' ⟨rfl, rfl⟩)
            go_round
            case rel => exact ⟨k + 1, by omega, by go_num, congrArg (Value.int .i64) (by rw [hval.out]; omega), Hall2.out⟩
            case measure => simp [intOf]; omega
        · obtain rfl : k = s.size := by omega
          have ht : s.data.toList.take s.size = s.data.toList := List.take_of_length_le (by rw [len_data]; exact Nat.le_refl _)
          rw [ht] at Hall hvl ⊢
          have hd := decDigits_len (valL s.data.toList) (by omega)
          have hfin : Hid ((eqB (decB (valL s.data.toList)) s = true ∧ rdecN s = (valL s.data.toList : Nat) ∧ rdecOk s = true) ∨ (eqB (decB (valL s.data.toList)) s = false ∧ rdecN s = 0 ∧ rdecOk s = false)) := by
            show _ ∨ _
            by_cases he : Lib.decDigits (valL s.data.toList) = s.data.toList
            · left
              exact ⟨eqB_iff.2 (bytes_ext he), rdec_some (rdec_yes s (by omega) (by omega) Hall.out he)⟩
            · right
              refine ⟨Bool.eq_false_iff.2 (fun hh => he ?_), rdec_none (rdec_ne s he)⟩
              exact (decB_list _).symm.trans (congrArg (fun x : ByteArray => x.data.toList) (eqB_iff.1 hh))
          clear Hall ht hd
          generalize valL s.data.toList = v at *
          rcases hfin.out with ⟨he, hn, ho⟩ | ⟨he, hn, ho⟩
          all_goals
            have HF : Hid (rdecN s = _ ∧ rdecOk s = _) := ⟨hn, ho⟩
            clear hn ho hfin
            unfold eqB at he
            go_wp2_with (go_at_call 111; refine (sDecText_nat _ _ (by omega)).mono ?_; rintro e w1 ⟨rfl, hb⟩)
            go_ret2
            exact ⟨ret_ib HF.out.1 HF.out.2, hb⟩
set_option maxHeartbeats 1000000 in
theorem ReadDec_any (s : ByteArray) (w : World) (hs : s.size ≤ maxLen) :
    Calls Tryz.prog 123 #[.string s] w fun e w' => e = .returned (.tuple #[.int .i64 (rdecN s), .bool (rdecOk s)]) ∧ w' = w := by
  unfold maxLen at hs
  by_cases h0 : s.size = 0
  · have hr := rdec_none (rdec_size s (Or.inl h0))
    have hne : s.toList.isEmpty = true := by rw [ByteArray.toList_eq, List.isEmpty_iff, ← List.length_eq_zero_iff, Array.length_toList]; exact h0
    rw [hr.1, hr.2]
    clear hr
    go_enter Tryz.func123, Tryz.ntmps123
    go_wp2
    go_ret2
    exact ⟨rfl, rfl⟩
  · have hne : s.toList.isEmpty = false := by
      rw [ByteArray.toList_eq, List.isEmpty_eq_false_iff]
      intro hh
      apply h0
      rw [← len_data, hh]; rfl
    have hpos : 0 < s.size := by omega
    by_cases hz : (at8 s 0).toNat = 48 ∧ s.data.toList ≠ [48]
    · have hr := rdec_none (rdec_zero s hpos hz.1 hz.2)
      have hq1 : ((s[0].toNat : Int) == 48) = true := by rw [beq_iff_eq, at8_eq s 0 hpos]; omega
      have hq2 : (s.toList == [48]) = false := by rw [ByteArray.toList_eq, beq_eq_false_iff_ne]; exact hz.2
      rw [hr.1, hr.2]
      clear hr hz
      go_enter Tryz.func123, Tryz.ntmps123
      go_wp2
      go_ret2
      exact ⟨rfl, rfl⟩
    · have hz' : Hid ((at8 s 0).toNat ≠ 48 ∨ s.data.toList = [48]) := by
        show _ ∨ _
        by_cases h1 : (at8 s 0).toNat = 48
        · right; exact Classical.byContradiction fun h2 => hz ⟨h1, h2⟩
        · left; exact h1
      have hway : (((s[0].toNat : Int) == 48) = false) ∨ (((s[0].toNat : Int) == 48) = true ∧ (s.toList == [48]) = true) := by
        rcases hz'.out with h | h
        · left; rw [beq_eq_false_iff_ne, at8_eq s 0 hpos]; omega
        · by_cases h1 : ((s[0].toNat : Int) == 48) = true
          · right; exact ⟨h1, by rw [ByteArray.toList_eq, h]; rfl⟩
          · left; simpa using h1
      clear hz
      rcases hway with hq1 | ⟨hq1, hq2⟩
      all_goals
        go_enter Tryz.func123, Tryz.ntmps123
        go_wp2
        clear hne
        go_loop [4, 19] (fun n i => ∃ k : Nat, k ≤ s.size ∧ i = .int .i64 k ∧ n = .int .i64 (valL (s.data.toList.take k) : Nat) ∧ allDig (s.data.toList.take k) = true ∧ valL (s.data.toList.take k) ≤ 999999999999999) (fun _ i => s.size - (intOf i).toNat)
        case atStart => exact ⟨0, Nat.zero_le _, rfl, rfl, rfl, by simp [valL]⟩
        case round =>
          obtain ⟨k, hk, rfl, rfl, hall, hvl⟩ := hrel
          have Hall : Hid (allDig (s.data.toList.take k) = true) := hall
          clear hall
          by_cases hlt : k < s.size
          · cases hg0 : dig8 (at8 s k)
            · have hg : digP (s[k].toNat : Int) = false := by rw [at8_eq s k hlt]; exact hg0
              have hfin : Hid (rdecN s = 0 ∧ rdecOk s = false) := rdec_none (rdec_nodig s k hlt hg0)
              clear hg0
              go_wp2_with (go_at_call 166; refine (digitByte_any _ _).mono ?_; rintro e w' ⟨rfl, rfl⟩)
              go_ret2
              exact ⟨ret_ib hfin.out.1 hfin.out.2, rfl⟩
            · have hg : digP (s[k].toNat : Int) = true := by rw [at8_eq s k hlt]; exact hg0
              have hb := (dig8_iff _).1 hg0
              have hval0 : valL (s.data.toList.take (k + 1)) = valL (s.data.toList.take k) * 10 + (s[k].toNat - 48) := by
                rw [allDig_take_succ s k hlt, valL_snoc, at8_eq s k hlt]
              have Hall2 : Hid (allDig (s.data.toList.take (k + 1)) = true) := by
                show _ = _
                rw [allDig_take_succ s k hlt]; exact allDig_snoc _ _ Hall.out hg0
              have hb1 : 48 ≤ s[k].toNat := by rw [at8_eq s k hlt]; exact hb.1
              have hb2 : s[k].toNat ≤ 57 := by rw [at8_eq s k hlt]; exact hb.2
              have hbig : Hid (999999999999999 < valL (s.data.toList.take (k + 1)) → rdecN s = 0 ∧ rdecOk s = false) := fun h => rdec_none (rdec_big s (k + 1) hlt Hall2.out h)
              have hval : Hid (valL (s.data.toList.take (k + 1)) = valL (s.data.toList.take k) * 10 + (s[k].toNat - 48)) := hval0
              clear hg0 hb hval0
              generalize valL (s.data.toList.take k) = v at *
              by_cases hover : (999999999999999 : Int) < (v : Int) * 10 + ((s[k].toNat : Int) - 48)
              · go_wp2_with (go_at_call 166; refine (digitByte_any _ _).mono ?_; rintro e w' ⟨rfl, rfl⟩)
                go_ret2
                have hh := hbig.out (by rw [hval.out]; omega)
                exact ⟨ret_ib hh.1 hh.2, rfl⟩
              · go_wp2_with (go_at_call 166; refine (digitByte_any _ _).mono ?_; rintro e w' ⟨rfl, rfl⟩)
                go_round
                case rel => exact ⟨k + 1, by omega, by go_num, congrArg (Value.int .i64) (by rw [hval.out]; omega), Hall2.out, by rw [hval.out]; omega⟩
                case measure => simp [intOf]; omega
          · obtain rfl : k = s.size := by omega
            have ht : s.data.toList.take s.size = s.data.toList := List.take_of_length_le (by rw [len_data]; exact Nat.le_refl _)
            rw [ht] at Hall hvl ⊢
            have hfin : Hid (rdecN s = (valL s.data.toList : Nat) ∧ rdecOk s = true) := rdec_some (rdec_end s hpos Hall.out hz'.out hvl)
            clear ht
            generalize valL s.data.toList = v at *
            go_wp2
            go_ret2
            exact ⟨ret_ib hfin.out.1 hfin.out.2, rfl⟩
end Go.Proofs.YtodandipfjamnaaGreatDoor
namespace Go.Proofs.YtodandipfjamnaaGreatDoor
set_option linter.unusedVariables false
set_option linter.unusedSimpArgs false
open Go.RowKit
theorem dec_three {u : Nat} (h1 : 200 ≤ u) (h2 : u ≤ 599) : (Lib.decDigits u).length = 3 := by
  rw [decDigits_step u (by omega), decDigits_step (u / 10) (by omega), List.length_append, List.length_append, Lib.decDigits, dif_pos (by omega)]
  rfl
theorem rdec_list {s : ByteArray} {u : Nat} (hs : rdec s = some u) : s.data.toList = Lib.decDigits u ∧ allDig s.data.toList = true := by
  unfold rdec at hs
  split at hs
  · rename_i hc
    have := Option.some.inj hs
    rw [← this]; exact ⟨hc.2.2.2.symm, hc.2.2.1⟩
  · cases hs
theorem rdec_three {s : ByteArray} (ho : rdecOk s = true) (h1 : 200 ≤ rdecN s) (h2 : rdecN s ≤ 599) : s.size = 3 := by
  unfold rdecOk at ho
  obtain ⟨u, hu⟩ := Option.isSome_iff_exists.1 ho
  unfold rdecN at h1 h2
  rw [hu] at h1 h2
  simp only [Option.getD_some] at h1 h2
  rw [← len_data, (rdec_list hu).1]
  exact dec_three (by omega) (by omega)
theorem rdec_no32 {s : ByteArray} (ho : rdecOk s = true) {j : Nat} (hj : j < s.size) : at8 s j ≠ 32 := by
  unfold rdecOk at ho
  obtain ⟨u, hu⟩ := Option.isSome_iff_exists.1 ho
  have h := (rdec_list hu).2
  unfold allDig at h
  rw [List.all_eq_true] at h
  have hl : j < s.data.toList.length := by rw [len_data]; exact hj
  have h1 := h _ (List.getElem_mem hl)
  intro h2
  unfold at8 at h2
  rw [List.getD, List.getElem?_eq_getElem hl] at h2
  have h3 : s.data.toList[j] = 32 := h2
  rw [h3] at h1
  cases h1
/-- The parts of an answer's line: three at most. -/
def prt3 (s : ByteArray) : List ByteArray := Lib.splitB ⟨#[32]⟩ 0 (min 3 (s.size + 1) - 1) s
def verV : ByteArray := ⟨#[72, 84, 84, 80, 47, 49, 46, 49, 32]⟩
def anM (n : Int) (re : ByteArray) : Mg := ⟨⟨#[]⟩, ⟨#[]⟩, n, re, false, [], ⟨#[]⟩⟩
/-- The first line of an answer. -/
def anO (s : ByteArray) : Option (Int × ByteArray) :=
  if 13 ≤ s.size ∧ s.extract 0 9 = verV ∧ at8 s 12 = 32 ∧ rdecOk (s.extract 9 12) = true ∧ ansQ (anM (rdecN (s.extract 9 12)) (s.extract 13 s.size)) = true then some (rdecN (s.extract 9 12), s.extract 13 s.size) else none
def anP (s : ByteArray) : Option (Int × ByteArray) :=
  match prt3 s with
  | [p, q, r] => if p = verB ∧ rdecOk q = true ∧ ansQ (anM (rdecN q) r) = true then some (rdecN q, r) else none
  | _ => none
theorem verV_head (s : ByteArray) (h : s.extract 0 9 = verV) : s.extract 0 8 = verB := by
  have e : (s.extract 0 9).extract 0 8 = s.extract 0 8 := by
    rw [ByteArray.extract_extract]; congr 1
  have e2 : verV.extract 0 8 = verB := by
    apply bytes_ext
    rw [Lib.extract_data]
    rfl
  rw [← e, h]; exact e2
theorem verV_mk (s : ByteArray) (h9 : 9 ≤ s.size) (h : s.extract 0 8 = verB) (h0 : at8 s 8 = 32) : s.extract 0 9 = verV := by
  apply bytes_ext
  have hl : 8 < s.data.toList.length := by rw [len_data]; omega
  have e1 := congrArg (fun b : ByteArray => b.data.toList) h
  simp only [Lib.extract_data, Nat.sub_zero, List.drop_zero] at e1
  rw [Lib.extract_data, Nat.sub_zero, List.drop_zero, List.take_succ_eq_append_getElem hl, e1]
  have h2 : s.data.toList[8] = 32 := by
    unfold at8 at h0
    rw [List.getD, List.getElem?_eq_getElem hl] at h0
    exact h0
  rw [h2]
  rfl
theorem an_same (s : ByteArray) : anP s = anO s := by
  have hver : ∀ j, j < 8 → at8 verB j ≠ 32 := verW_no32
  by_cases hs2 : s.size < 2
  · have e2 : anO s = none := by unfold anO; rw [if_neg (by omega)]
    have hl := Lib.splitB_length_le ⟨#[32]⟩ 0 (min 3 (s.size + 1) - 1) s
    rw [e2]
    unfold anP
    have hl2 : (prt3 s).length ≤ 2 := by unfold prt3; omega
    match hx : prt3 s with
    | [] => rfl
    | [_] => rfl
    | [_, _] => rfl
    | _ :: _ :: _ :: _ => rw [hx] at hl2; simp at hl2
  · have hk : min 3 (s.size + 1) - 1 = 2 := by omega
    have hP : prt3 s = Lib.splitB ⟨#[32]⟩ 0 2 s := by unfold prt3; rw [hk]
    have blank8 : ∀ (_ : 13 ≤ s.size) (_ : s.extract 0 9 = verV), idxW s = (8 : Nat) := by
      intro c1 c2
      have hb := verV_head s c2
      refine idxW_of (by omega) ?_ ?_
      · have h1 := at8_ext (s := s) (a := 0) (b := 9) (j := 8) (by omega) (by omega)
        rw [c2] at h1
        rw [Nat.zero_add] at h1
        rw [← h1]; rfl
      · intro j hj
        have h1 := at8_ext (s := s) (a := 0) (b := 8) (j := j) (by omega) (by omega)
        rw [hb, Nat.zero_add] at h1
        rw [← h1]
        exact hver j hj
    rcases idxW_cases s with h0 | ⟨i0, h0, hi0⟩
    · have e1 : anP s = none := by unfold anP; rw [hP, Lib.splitB_miss _ _ _ _ (by rw [idxW_B]; exact h0)]
      rw [e1]
      unfold anO
      rw [if_neg]
      rintro ⟨c1, c2, _⟩
      have := blank8 c1 c2
      omega
    · obtain ⟨g0, g1, g2⟩ := idxW_some h0
      have hr1 : (s.extract (i0 + 1) s.size).size = s.size - (i0 + 1) := by rw [ByteArray.size_extract]; omega
      have hp : Lib.splitB ⟨#[32]⟩ 0 2 s = s.extract 0 i0 :: Lib.splitB ⟨#[32]⟩ 0 1 (s.extract (i0 + 1) s.size) := Lib.splitB_hit ⟨#[32]⟩ 0 1 s i0 (by rw [idxW_B]; exact h0)
      rcases idxW_cases (s.extract (i0 + 1) s.size) with h1 | ⟨i1, h1, hi1⟩
      · have e1 : anP s = none := by unfold anP; rw [hP, hp, Lib.splitB_miss _ _ _ _ (by rw [idxW_B]; exact h1)]
        rw [e1]
        unfold anO
        rw [if_neg]
        rintro ⟨c1, c2, c3, _⟩
        have h8 := blank8 c1 c2
        have e8 : i0 = 8 := by omega
        subst e8
        have := idxW_none h1 3 (by omega)
        rw [at8_ext (Nat.le_refl _) (by omega)] at this
        exact this c3
      · obtain ⟨k0, k1, k2⟩ := idxW_some h1
        have hp2 : Lib.splitB ⟨#[32]⟩ 0 1 (s.extract (i0 + 1) s.size) = [(s.extract (i0 + 1) s.size).extract 0 i1, (s.extract (i0 + 1) s.size).extract (i1 + 1) (s.extract (i0 + 1) s.size).size] := Lib.splitB_hit ⟨#[32]⟩ 0 0 (s.extract (i0 + 1) s.size) i1 (by rw [idxW_B]; exact h1)
        have q1 : (s.extract (i0 + 1) s.size).extract 0 i1 = s.extract (i0 + 1) (i0 + 1 + i1) := by
          rw [ByteArray.extract_extract]; congr 1; omega
        have q2 : (s.extract (i0 + 1) s.size).extract (i1 + 1) (s.extract (i0 + 1) s.size).size = s.extract (i0 + 1 + i1 + 1) s.size := by
          rw [hr1, ByteArray.extract_extract]; congr 1; omega
        rw [q1, q2] at hp2
        rw [at8_ext (Nat.le_refl _) (by omega)] at k1
        have e1 : anP s = if s.extract 0 i0 = verB ∧ rdecOk (s.extract (i0 + 1) (i0 + 1 + i1)) = true ∧ ansQ (anM (rdecN (s.extract (i0 + 1) (i0 + 1 + i1))) (s.extract (i0 + 1 + i1 + 1) s.size)) = true then some (rdecN (s.extract (i0 + 1) (i0 + 1 + i1)), s.extract (i0 + 1 + i1 + 1) s.size) else none := by
          unfold anP; rw [hP, hp, hp2]
        rw [e1]
        unfold anO
        by_cases hc : s.extract 0 i0 = verB ∧ rdecOk (s.extract (i0 + 1) (i0 + 1 + i1)) = true ∧ ansQ (anM (rdecN (s.extract (i0 + 1) (i0 + 1 + i1))) (s.extract (i0 + 1 + i1 + 1) s.size)) = true
        · obtain ⟨c1, c2, c3⟩ := hc
          have e8 : i0 = 8 := by
            have := congrArg ByteArray.size c1
            rw [ByteArray.size_extract] at this
            have e8 : verB.size = 8 := rfl
            omega
          subst e8
          have hst := stQ_iff.1 (ansQ_iff.1 c3).2.1
          have h3 := rdec_three c2 hst.1 hst.2
          rw [ByteArray.size_extract] at h3
          have e3 : i1 = 3 := by omega
          subst e3
          rw [if_pos ⟨c1, c2, c3⟩, if_pos ⟨by omega, verV_mk s (by omega) c1 g1, k1, c2, c3⟩]
        · rw [if_neg hc, if_neg]
          rintro ⟨c1, c2, c3, c4, c5⟩
          have h8 := blank8 c1 c2
          have e8 : i0 = 8 := by omega
          subst e8
          have e3 : i1 = 3 := by
            have h3 : idxW (s.extract (8 + 1) s.size) = (3 : Nat) := by
              refine idxW_of (by omega) ?_ ?_
              · rw [at8_ext (Nat.le_refl _) (by omega)]; exact c3
              · intro j hj
                rw [at8_ext (Nat.le_refl _) (by omega)]
                have hz : j < (s.extract 9 12).size := by rw [ByteArray.size_extract]; omega
                have := rdec_no32 c4 hz
                rwa [at8_ext (by omega) (by omega)] at this
            omega
          subst e3
          exact hc ⟨verV_head s c2, c4, c5⟩
end Go.Proofs.YtodandipfjamnaaGreatDoor
namespace Go.Proofs.YtodandipfjamnaaGreatDoor
set_option linter.unusedVariables false
set_option linter.unusedSimpArgs false
open Go.RowKit
/-- What a first line says: Method, Target, Status, Reason. -/
abbrev Fl := ByteArray × ByteArray × Int × ByteArray
def flX (answer : Bool) (s : ByteArray) : Option Fl := if answer = true then (anO s).map fun x => (⟨#[]⟩, ⟨#[]⟩, x.1, x.2) else (rqO s).map fun x => (x.1, x.2, 0, ⟨#[]⟩)
/-- The fields from k on, and where they end. -/
def lnR (s : ByteArray) : Nat → Nat → List Fd → Except Int (List Fd × Nat)
  | 0, _, _ => .error 431
  | n + 1, k, acc =>
    if hlC s k ≠ 0 then .error (hlC s k)
    else if tlE s k = k then .ok (acc, k + 2)
    else if acc.length = 20 then .error 431
    else if readO (lineAt s k) = true then lnR s n (tlE s k + 2) (acc ++ [readF (lineAt s k)])
    else .error 400
theorem lnR_bad {s : ByteArray} {n k : Nat} {acc : List Fd} (h : hlC s k ≠ 0) : lnR s (n + 1) k acc = .error (hlC s k) := by rw [lnR, if_pos h]
theorem lnR_end {s : ByteArray} {n k : Nat} {acc : List Fd} (h : hlC s k = 0) (h1 : tlE s k = k) : lnR s (n + 1) k acc = .ok (acc, k + 2) := by rw [lnR, if_neg (by omega), if_pos h1]
theorem lnR_full {s : ByteArray} {n k : Nat} {acc : List Fd} (h : hlC s k = 0) (h1 : tlE s k ≠ k) (h2 : acc.length = 20) : lnR s (n + 1) k acc = .error 431 := by rw [lnR, if_neg (by omega), if_neg h1, if_pos h2]
theorem lnR_no {s : ByteArray} {n k : Nat} {acc : List Fd} (h : hlC s k = 0) (h1 : tlE s k ≠ k) (h2 : acc.length ≠ 20) (h3 : readO (lineAt s k) = false) : lnR s (n + 1) k acc = .error 400 := by rw [lnR, if_neg (by omega), if_neg h1, if_neg h2, if_neg (by rw [h3]; simp)]
theorem lnR_next {s : ByteArray} {n k : Nat} {acc : List Fd} (h : hlC s k = 0) (h1 : tlE s k ≠ k) (h2 : acc.length ≠ 20) (h3 : readO (lineAt s k) = true) : lnR s (n + 1) k acc = lnR s n (tlE s k + 2) (acc ++ [readF (lineAt s k)]) := by rw [lnR, if_neg (by omega), if_neg h1, if_neg h2, if_pos h3]
/-- What a head says behind its first line. -/
def hdZ (answer : Bool) (s : ByteArray) : Except Int (Fl × List Fd × Nat) :=
  match flX answer (lineAt s 0) with
  | none => .error 400
  | some h => match lnR s 21 (tlE s 0 + 2) [] with
    | .error c => .error c
    | .ok (fs, n) => .ok (h, fs, n)
/-- What a head says. -/
def hdX (answer : Bool) (s : ByteArray) : Except Int (Fl × List Fd × Nat) :=
  if 4000 < s.size then .error 413
  else if hlC s 0 ≠ 0 then .error (hlC s 0)
  else hdZ answer s
theorem hdX_go {answer : Bool} {s : ByteArray} (h1 : ¬ 4000 < s.size) (h2 : hlC s 0 = 0) : hdX answer s = hdZ answer s := by
  unfold hdX; rw [if_neg h1, if_neg (by omega)]
theorem hdZ_none {answer : Bool} {s : ByteArray} (h : flX answer (lineAt s 0) = none) : hdZ answer s = .error 400 := by unfold hdZ; rw [h]
theorem hdZ_bad {answer : Bool} {s : ByteArray} {x : Fl} {c : Int} (h : flX answer (lineAt s 0) = some x) (h2 : lnR s 21 (tlE s 0 + 2) [] = .error c) : hdZ answer s = .error c := by unfold hdZ; rw [h]; simp only; rw [h2]
theorem hdZ_ok {answer : Bool} {s : ByteArray} {x : Fl} {fs : List Fd} {n : Nat} (h : flX answer (lineAt s 0) = some x) (h2 : lnR s 21 (tlE s 0 + 2) [] = .ok (fs, n)) : hdZ answer s = .ok (x, fs, n) := by unfold hdZ; rw [h]; simp only; rw [h2]
theorem hlC_cases (s : ByteArray) (k : Nat) : hlC s k = 0 ∨ hlC s k = 400 ∨ hlC s k = 431 := by
  unfold hlC
  split
  · split <;> simp
  · simp
theorem lenE_nil2 {s : ByteArray} {k : Nat} (hk : k ≤ s.size) : (lineAt s k).toList.isEmpty = decide (tlE s k = k) := by
  have hz := lineAt_size hk
  have hg := tlE_ge s k
  have hl : (lineAt s k).toList.length = tlE s k - k := by rw [ByteArray.toList_eq, len_data, hz]
  cases h : (lineAt s k).toList with
  | nil => rw [h] at hl; simp at hl; simp; omega
  | cons a r => rw [h] at hl; simp at hl; simp; omega
theorem readF_ok {s : ByteArray} (h : readO s = true) : fieldQ (readF s) = true := by
  have h' := h
  unfold readO at h'
  unfold readF
  rw [if_pos h]
  simp only [Bool.and_eq_true] at h'
  exact h'.2
theorem lnR_facts {s : ByteArray} : ∀ {n k : Nat} {acc fs : List Fd} {m : Nat}, k ≤ s.size → acc.length ≤ 20 → (∀ x ∈ acc, fieldQ x = true) → lnR s n k acc = .ok (fs, m) → fs.length ≤ 20 ∧ m ≤ s.size ∧ ∀ x ∈ fs, fieldQ x = true
  | 0, _, _, _, _, _, _, _, h => by rw [lnR] at h; cases h
  | n + 1, k, acc, fs, m, hk, hl, hq, h => by
    by_cases h0 : hlC s k = 0
    · have hE := tlE_ok hk (hlC_zero h0).1
      by_cases h1 : tlE s k = k
      · rw [lnR_end h0 h1] at h
        injection h with h
        injection h with h2 h3
        subst h2
        exact ⟨hl, by omega, hq⟩
      · by_cases h2 : acc.length = 20
        · rw [lnR_full h0 h1 h2] at h; cases h
        · cases h3 : readO (lineAt s k)
          · rw [lnR_no h0 h1 h2 h3] at h; cases h
          · rw [lnR_next h0 h1 h2 h3] at h
            refine lnR_facts hE (by rw [List.length_append]; simp; omega) (fun x hx => ?_) h
            rcases List.mem_append.1 hx with hx | hx
            · exact hq x hx
            · rw [List.mem_singleton.1 hx]; exact readF_ok h3
    · rw [lnR_bad h0] at h; cases h
theorem flX_sizes {answer : Bool} {s : ByteArray} {a b r : ByteArray} {n : Int} (h : flX answer s = some (a, b, n, r)) : a.size ≤ 20 ∧ b.size ≤ 200 ∧ r.size ≤ 40 := by
  cases answer
  · have h2 : ((rqO s).map fun x => ((x.1, x.2, 0, ⟨#[]⟩) : Fl)) = some (a, b, n, r) := h
    cases hr : rqO s with
    | none => rw [hr] at h2; cases h2
    | some x =>
      rw [hr] at h2
      injection h2 with h2
      injection h2 with e1 h2
      injection h2 with e2 h2
      injection h2 with e3 e4
      subst e1 e2 e4
      unfold rqO at hr
      split at hr
      · rename_i hh
        injection hr with hr
        have hq := reqQ_iff.1 hh.2.2
        have h5 := methQ_iff.1 hq.1
        have h6 := hq.2.1
        subst hr
        refine ⟨h5.2, ?_, Nat.zero_le _⟩
        unfold targQ at h6
        simp only [Bool.and_eq_true, decide_eq_true_eq] at h6
        have h7 := h6.1
        have h8 : ((s.extract (aheadN s + 1) (s.size - 9)).size : Int) ≤ 200 := h7.2
        show (s.extract (aheadN s + 1) (s.size - 9)).size ≤ 200
        omega
      · cases hr
  · have h2 : ((anO s).map fun x => ((⟨#[]⟩, ⟨#[]⟩, x.1, x.2) : Fl)) = some (a, b, n, r) := h
    cases hr : anO s with
    | none => rw [hr] at h2; cases h2
    | some x =>
      rw [hr] at h2
      injection h2 with h2
      injection h2 with e1 h2
      injection h2 with e2 h2
      injection h2 with e3 e4
      subst e1 e2 e4
      unfold anO at hr
      split at hr
      · rename_i hh
        injection hr with hr
        have hq := ansQ_iff.1 hh.2.2.2.2
        subst hr
        exact ⟨Nat.zero_le _, Nat.zero_le _, hq.2.2.1⟩
      · cases hr
theorem totF_of : ∀ {l : List Fd}, (∀ x ∈ l, fieldQ x = true) → totF l ≤ l.length * 230
  | [], _ => Nat.zero_le _
  | x :: r, h => by
    have h1 := fieldQ_sizes (h x (by simp))
    have h2 := totF_of (l := r) (fun y hy => h y (by simp [hy]))
    have h3 : totF (x :: r) = szF x + totF r := by simp [totF]
    rw [h3]
    unfold szF
    simp only [List.length_cons]
    omega
theorem hdX_facts {answer : Bool} {s : ByteArray} {a b r : ByteArray} {n : Int} {fs : List Fd} {m : Nat} (h : hdX answer s = .ok ((a, b, n, r), fs, m)) :
    s.size ≤ 4000 ∧ a.size ≤ 20 ∧ b.size ≤ 200 ∧ r.size ≤ 40 ∧ fs.length ≤ 20 ∧ m ≤ s.size ∧ totF fs ≤ 4600 ∧ ∀ x ∈ fs, fieldQ x = true := by
  unfold hdX at h
  split at h
  · cases h
  · rename_i hs
    split at h
    · cases h
    · rename_i h0
      have h0' : hlC s 0 = 0 := by
        rcases hlC_cases s 0 with h1 | h1 | h1
        · exact h1
        · exact absurd h1 (by intro h2; exact h0 (by rw [h2]; decide))
        · exact absurd h1 (by intro h2; exact h0 (by rw [h2]; decide))
      have hE := tlE_ok (Nat.zero_le _) (hlC_zero h0').1
      cases hf : flX answer (lineAt s 0) with
      | none => rw [hdZ_none hf] at h; cases h
      | some x =>
        cases hl : lnR s 21 (tlE s 0 + 2) [] with
        | error c => rw [hdZ_bad hf hl] at h; cases h
        | ok y =>
          obtain ⟨fs', m'⟩ := y
          rw [hdZ_ok hf hl] at h
          injection h with h
          injection h with h1 h2
          injection h2 with h2 h3
          subst h1 h2 h3
          have k1 := flX_sizes hf
          have k2 := lnR_facts hE (Nat.zero_le _) (by simp) hl
          have k3 := totF_of k2.2.2
          exact ⟨by omega, k1.1, k1.2.1, k1.2.2, k2.1, k2.2.1, by have := k2.1; omega, k2.2.2⟩
end Go.Proofs.YtodandipfjamnaaGreatDoor
namespace Go.Proofs.YtodandipfjamnaaGreatDoor
set_option linter.unusedVariables false
set_option linter.unusedSimpArgs false
open Go
section
variable {P : Program} {md : Region.Mode} {ops : Array Oper} {C : World → Prop}
/-- No operation from n on comes up while one of k0 .. n - 1 has not. -/
def Waits (md : Region.Mode) (ops : Array Oper) (k0 n : Nat) : Prop :=
  ∀ up, HeadInv md ops n up → ∀ i, k0 ≤ i → i < n → up.getD i true = false → ∀ t, n ≤ t → t ∉ Region.ready md ops up
/-- The operations below n, in whatever order; where f of them have come up, L. -/
def Hd (P : Program) (md : Region.Mode) (ops : Array Oper) (C : World → Prop) (n : Nat) (L : Array Bool → Act → Prop) : Nat → Array Bool → Act → Prop
  | 0 => L
  | f + 1 => fun up a => (∃ i, i ∈ Region.ready md ops up) ∧ ∀ i ∈ Region.ready md ops up, i < n ∧ qOp P ops C i (Hd P md ops C n L f (up.setIfInBounds i true)) a
theorem Hd.wp {n g : Nat} {L : Array Bool → Act → Prop} {Q : Exit → Act → World → Prop} (hL : ∀ up a w, C w → L up a → wpAny P md ops Q g up a w) (f : Nat) :
    ∀ up a w, C w → Hd P md ops C n L f up a → wpAny P md ops Q (f + g) up a w := by
  induction f with
  | zero => intro up a w hw h; rw [Nat.zero_add]; exact hL up a w hw h
  | succ f ih =>
    intro up a w hw ⟨⟨i0, h0⟩, h⟩
    have e : f + 1 + g = (f + g) + 1 := by omega
    rw [e]
    refine ⟨fun hn => ?_, fun i hi => wpOp_of_qOp hw (fun a' w' hw' h' => ih _ a' w' hw' h') (h i hi).2⟩
    rw [hn] at h0; cases h0
/-- What may come up now, and yields the same in every world of the class, may be taken first. -/
theorem Hd.first {n i : Nat} {oi : Oper} {v : Value} {L : Array Bool → Act → Prop} (hi : ops[i]? = some oi) (hsel : Region.noSelect ops = true) (k0 : Nat) (hw : Waits md ops k0 n) (hk : k0 ≤ i) (hin : i < n)
    (hL : ∀ up a, L up a → ∀ j ∈ Region.ready md ops up, n ≤ j) (f : Nat) :
    ∀ up a, HeadInv md ops n up → (∀ j oj, ops[j]? = some oj → j ≠ i → up.getD j true = false → (∀ e ∈ oj.after, Region.binds md e = true → e.on ≠ i) → oi.apart ops oj = true) →
      i ∈ Region.ready md ops up → YieldsIn P ops C oi v a → Hd P md ops C n L f (up.setIfInBounds i true) (a.put oi.dst v) → Hd P md ops C n L (f + 1) up a := by
  have hno := Region.noSelect_spec hsel
  induction f with
  | zero =>
    intro up a inv _ hr hy H
    refine ⟨⟨i, hr⟩, fun j hj => ?_⟩
    have hjn : j < n := Nat.lt_of_not_le fun h => hw up inv i hk hin (mem_ready.1 hr).1 j h hj
    refine ⟨hjn, ?_⟩
    by_cases e : j = i
    · subst e; exact hy.qOp hi H
    · have := hL _ _ H j (ready_mono hj e)
      omega
  | succ f ih =>
    intro up a inv hap hr hy H
    refine ⟨⟨i, hr⟩, fun j hj => ?_⟩
    have hjn : j < n := Nat.lt_of_not_le fun h => hw up inv i hk hin (mem_ready.1 hr).1 j h hj
    refine ⟨hjn, ?_⟩
    by_cases e : j = i
    · subst e; exact hy.qOp hi H
    · obtain ⟨hju, oj, hoj, hall⟩ := mem_ready.1 hj
      have hnw : ∀ x ∈ oj.after, Region.binds md x = true → x.on ≠ i := by
        intro x hx hb ho
        have h1 := hall x hx hb
        rw [ho, getD_both (mem_ready.1 hr).1] at h1
        cases h1
      refine qOp_mono (fun a' h' => ?_) (qOp_put hoj (hap j oj hoj e hju hnw) (fun cs b => hno i oi cs b hi) (fun cs b => hno j oj cs b hoj) hy (H.2 j (ready_mono hj e)).2)
      refine ih _ a' (inv.set hj hjn) (fun k ok hk hki hun hw => hap k ok hk hki ?_ hw) (ready_mono hr (Ne.symm e)) h'.1 ?_
      · by_cases ejk : j = k
        · subst ejk; exact hju
        · rwa [getD_set_ne true ejk] at hun
      · rw [Array.setIfInBounds_comm _ _ e]; exact h'.2
theorem Hd.text {n g : Nat} {Lq : Act → Prop} (hsel : Region.noSelect ops = true) (k0 : Nat) (hw : Waits md ops k0 n) (l : List Oper) :
    ∀ k up a, k0 ≤ k → (∀ j, j < l.length → l[j]? = ops[k + j]?) → k + l.length = n → HeadInv md ops n up → Region.lexHead md ops g l.length k up = true → wpQuiet P ops C Lq l a →
      Hd P md ops C n (fun up' a' => Region.seqB md ops g n up' = true ∧ Lq a') l.length up a := by
  induction l with
  | nil =>
    intro k up a _ _ hk _ hB h
    obtain rfl : k = n := by simpa using hk
    exact ⟨by simpa [Region.lexHead] using hB, h⟩
  | cons o l ih =>
    intro k up a hk0 hl hk inv hB h
    have h0 : ops[k]? = some o := by simpa using (hl 0 (by simp)).symm
    simp only [List.length_cons, Region.lexHead, Bool.and_eq_true] at hB
    obtain ⟨⟨hr0, hf⟩, hB'⟩ := hB
    have hr : k ∈ Region.ready md ops up := by simpa using hr0
    simp only [List.length_cons] at hk
    have hq : qOp P ops C k (wpQuiet P ops C Lq l) a := by unfold qOp; rw [h0]; exact h
    obtain ⟨v, hy, hK⟩ := yieldsIn_of_qOp h0 hq
    refine Hd.first h0 hsel k0 hw hk0 (by omega) (fun up' a' hh => seqB_ready hh.1) l.length up a inv (Region.free_spec h0 hf) hr hy ?_
    refine ih (k + 1) _ _ (by omega) (fun j hj => ?_) (by omega) (inv.set hr (by omega)) hB' hK
    have := hl (j + 1) (by simp; omega)
    rw [show k + 1 + j = k + (j + 1) by omega, ← this]
    simp
theorem wp_region_quiet_tail {id : Nat} {Q : Exit → Act → World → Prop} {a : Act} {w : World} {l : List Oper} (C : World → Prop) (n : Nat) (hm : P.follows .mixedOrders = true) (hB : Region.lexTailB .any l.toArray n = true) (hC : C { w with drawn := w.drawn + 1 })
    (h : wpQuiet P l.toArray C (fun a' => ∀ w', C w' → wpList P l.toArray Q (l.drop n) a' w') (l.take n) a) : (Code.region id l.toArray true).wp P Q a w := by
  simp only [Region.lexTailB, Bool.and_eq_true, decide_eq_true_eq] at hB
  obtain ⟨⟨⟨⟨hsel, hn⟩, hs⟩, hc⟩, hlex⟩ := hB
  have hnl : n < l.length := by simpa using hn
  have htl : (l.take n).length = n := by simp; omega
  have hdl : (l.drop n).length = l.toArray.size - n := by simp
  have inv0 : HeadInv .any l.toArray n (Array.replicate l.toArray.size false) :=
    ⟨by simp, fun j oj _ hl => (by rw [getD_replicate_false] at hl; cases hl), fun t _ ht => getD_in (by simpa using ht) (getD_replicate_false _ _)⟩
  have H := Hd.text (C := C) (md := .any) (g := l.toArray.size - n) hsel 0 (fun up inv i _ hin hun t ht => tail_waits hs hc hn inv _ i rfl hin hun t ht) (l.take n) 0 (Array.replicate l.toArray.size false) a (Nat.le_refl _)
    (fun j hj => by rw [htl] at hj; simp [hj]) (by rw [htl]; omega) inv0 (by rw [htl]; exact hlex) h
  have HW := Hd.wp (Q := Q) (g := l.toArray.size - n) (fun up a' w' hw' hh => by
    have := wpAny_of_seq (P := P) (md := .any) (Q' := Q) (l.drop n) n up a' w' (fun j => by simp [List.getElem?_drop]) (by rw [hdl]; exact hh.1) (hh.2 w' hw')
    rwa [hdl] at this) _ _ a _ hC H
  refine wp_region_any hm ?_
  rw [htl, show n + (l.toArray.size - n) = l.toArray.size by omega] at HW
  exact HW
/-- The same, at the class 'w after some draws'. -/
theorem wp_region_draws_tail {id : Nat} {Q : Exit → Act → World → Prop} {a : Act} {w : World} {l : List Oper} (n : Nat) (hm : P.follows .mixedOrders = true) (hB : Region.lexTailB .any l.toArray n = true)
    (h : wpQuiet P l.toArray (fun w' => ∃ m, w' = w.drewN m) (fun a' => ∀ w', (∃ m, w' = w.drewN m) → wpList P l.toArray Q (l.drop n) a' w') (l.take n) a) : (Code.region id l.toArray true).wp P Q a w :=
  wp_region_quiet_tail (fun w' => ∃ m, w' = w.drewN m) n hm hB ⟨1, rfl⟩ h
/-- Each of k0 .. n - 1 is waited for by a later one up to n, each behind n by the next. -/
def lateB (md : Region.Mode) (ops : Array Oper) (k0 n : Nat) : Bool :=
  ((List.range n).all fun i => decide (i < k0) || (List.range (n + 1)).any fun j => decide (i < j) && Region.waitsFor md ops j i) && Region.chainB md ops n
theorem late_waits {k0 n : Nat} (hB : lateB md ops k0 n = true) : Waits md ops k0 n := by
  simp only [lateB, Bool.and_eq_true] at hB
  obtain ⟨hs, hc⟩ := hB
  intro up inv
  have unl : ∀ {x : Nat}, x < ops.size → up.getD x false ≠ true → up.getD x true = false := fun {x} hx h => getD_in (by rw [inv.size]; exact hx) (by simpa using h)
  have key : ∀ d i, n - i = d → k0 ≤ i → i < n → up.getD i true = false → n ∉ Region.ready md ops up := by
    intro d
    induction d using Nat.strongRecOn with
    | _ d ih =>
      intro i hd hk hi hu hr
      obtain ⟨_, o, ho, hall⟩ := mem_ready.1 hr
      have h1 := List.all_eq_true.1 hs i (List.mem_range.2 hi)
      have h2 : ¬ i < k0 := by omega
      simp only [h2, decide_false, Bool.false_or, List.any_eq_true, Bool.and_eq_true, decide_eq_true_eq] at h1
      obtain ⟨j, hjm, hij, hwj⟩ := h1
      have hjn : j ≤ n := by have := List.mem_range.1 hjm; omega
      obtain ⟨oj, hoj, e, he, hbd, hon⟩ := Region.waitsFor_spec hwj
      by_cases hl : up.getD j false = true
      · have h3 := inv.closed j oj hoj hl e he hbd
        rw [hon, getD_both hu] at h3; cases h3
      · by_cases hjn' : j = n
        · subst hjn'
          obtain rfl : oj = o := Option.some.inj (hoj.symm.trans ho)
          have h3 := hall e he hbd
          rw [hon, getD_both hu] at h3; cases h3
        · exact ih (n - j) (by omega) j rfl (by omega) (by omega) (unl (Array.getElem?_eq_some_iff.1 hoj).1 hl) hr
  intro i hk hi hu t ht hr
  by_cases htn : t = n
  · subst htn; exact key _ i rfl hk hi hu hr
  · obtain ⟨_, o, ho, hall⟩ := mem_ready.1 hr
    have htl := (Array.getElem?_eq_some_iff.1 ho).1
    have h1 := List.all_eq_true.1 hc t (List.mem_range.2 htl)
    have h2 : ¬ t ≤ n := by omega
    simp only [h2, decide_false, Bool.false_or] at h1
    obtain ⟨o', ho', e, he, hbd, hon⟩ := Region.waitsFor_spec h1
    obtain rfl : o' = o := Option.some.inj (ho'.symm.trans ho)
    have h3 := hall e he hbd
    rw [hon, getD_both (inv.tail (t - 1) (by omega) (by omega))] at h3; cases h3
/-- A first operation that yields the same in every world is taken first; then as above. -/
def leadB (ops : Array Oper) (n : Nat) : Bool :=
  Region.noSelect ops && decide (0 < n) && decide (n < ops.size) && lateB .any ops 1 n && (Region.ready .any ops (Array.replicate ops.size false)).contains 0 && Region.free .any ops (Array.replicate ops.size false) 0 && Region.lexHead .any ops (ops.size - n) (n - 1) 1 ((Array.replicate ops.size false).setIfInBounds 0 true)
theorem wp_region_lead_tail {id : Nat} {Q : Exit → Act → World → Prop} {a : Act} {w : World} {o0 : Oper} {l : List Oper} (C : World → Prop) (n : Nat) (v0 : Value) (hm : P.follows .mixedOrders = true) (hB : leadB (o0 :: l).toArray (n + 1) = true)
    (hQ : ∀ c a w, Q (.panic c) (a.put o0.dst v0) w → Q (.panic c) a w) (hy : Yields P (o0 :: l).toArray o0 v0 a) (hC : C { w with drawn := w.drawn + 1 })
    (h : wpQuiet P (o0 :: l).toArray C (fun a' => ∀ w', C w' → wpList P (o0 :: l).toArray Q (l.drop n) a' w') (l.take n) (a.put o0.dst v0)) : (Code.region id (o0 :: l).toArray true).wp P Q a w := by
  simp only [leadB, Bool.and_eq_true, decide_eq_true_eq] at hB
  obtain ⟨⟨⟨⟨⟨⟨hsel, _⟩, hn⟩, hlate⟩, hr⟩, hf⟩, hlex⟩ := hB
  have hsz : (o0 :: l).toArray.size = l.length + 1 := by simp
  have hnl : n < l.length := by rw [hsz] at hn; omega
  have htl : (l.take n).length = n := by rw [List.length_take]; omega
  have hdl : (l.drop n).length = (o0 :: l).toArray.size - (n + 1) := by rw [List.length_drop, hsz]; omega
  have inv0 : HeadInv .any (o0 :: l).toArray (n + 1) (Array.replicate (o0 :: l).toArray.size false) :=
    ⟨by simp, fun j oj _ hl => (by rw [getD_replicate_false] at hl; cases hl), fun t _ ht => getD_in (by simpa using ht) (getD_replicate_false _ _)⟩
  have hr0 : 0 ∈ Region.ready .any (o0 :: l).toArray (Array.replicate (o0 :: l).toArray.size false) := by simpa using hr
  have inv1 := inv0.set hr0 (by omega)
  have H := Hd.text (C := C) (md := .any) (g := (o0 :: l).toArray.size - (n + 1)) hsel 1 (late_waits hlate) (l.take n) 1 _ (a.put o0.dst v0) (Nat.le_refl _)
    (fun j hj => by rw [htl] at hj; rw [List.getElem?_take, if_pos hj, show 1 + j = j + 1 by omega]; simp) (by rw [htl]; omega) inv1 (by rw [htl]; exact hlex) h
  have HW := Hd.wp (Q := Q) (g := (o0 :: l).toArray.size - (n + 1)) (fun up a' w' hw' hh => by
    have := wpAny_of_seq (P := P) (md := .any) (Q' := Q) (l.drop n) (n + 1) up a' w' (fun j => by rw [List.getElem?_drop, show n + 1 + j = (n + j) + 1 by omega]; simp) (by rw [hdl]; exact hh.1) (hh.2 w' hw')
    rwa [hdl] at this) _ _ (a.put o0.dst v0) _ hC H
  refine wp_region_any hm ?_
  have e : (o0 :: l).toArray.size = ((l.take n).length + ((o0 :: l).toArray.size - (n + 1))) + 1 := by rw [htl, hsz]; omega
  have T := wpAny_take (P := P) (md := .any) (i := 0) (oi := o0) (v := v0) (fuel := (l.take n).length + ((o0 :: l).toArray.size - (n + 1))) (by simp) hsel hf hr hQ hy HW
  rw [← e] at T
  exact T
/-- The same, at the class 'w after some draws'. -/
theorem wp_region_lead_draws {id : Nat} {Q : Exit → Act → World → Prop} {a : Act} {w : World} {o0 : Oper} {l : List Oper} (n : Nat) (v0 : Value) (hm : P.follows .mixedOrders = true) (hB : leadB (o0 :: l).toArray (n + 1) = true)
    (hQ : ∀ c a w, Q (.panic c) (a.put o0.dst v0) w → Q (.panic c) a w) (hy : Yields P (o0 :: l).toArray o0 v0 a)
    (h : wpQuiet P (o0 :: l).toArray (fun w' => ∃ m, w' = w.drewN m) (fun a' => ∀ w', (∃ m, w' = w.drewN m) → wpList P (o0 :: l).toArray Q (l.drop n) a' w') (l.take n) (a.put o0.dst v0)) : (Code.region id (o0 :: l).toArray true).wp P Q a w :=
  wp_region_lead_tail (fun w' => ∃ m, w' = w.drewN m) n v0 hm hB hQ hy ⟨1, rfl⟩ h
end
end Go.Proofs.YtodandipfjamnaaGreatDoor
namespace Go.Proofs.YtodandipfjamnaaGreatDoor
set_option linter.unusedVariables false
set_option linter.unusedSimpArgs false
open Go.RowKit
structure Gr (W : World) where
  w : World
  h : Below W.heap.size W w
def grw (W : World) (V : Gr W) : World := V.w
theorem grw_below (W : World) (V : Gr W) : Below W.heap.size W (grw W V) := V.h
theorem grw_cell {W : World} {b : Nat} (o : Nat) (h : b < W.heap.size) (V : Gr W) : (grw W V).cell? ⟨b, o, none⟩ = W.cell? ⟨b, o, none⟩ := (grw_below W V).cell (p := ⟨b, o, none⟩) h
theorem grw_some {W : World} {b o : Nat} {v : Value} (h : W.cell? ⟨b, o, none⟩ = some v) (V : Gr W) : (grw W V).cell? ⟨b, o, none⟩ = some v := by
  rw [grw_cell o (World.block_lt_of_cell? _ _ h) V]; exact h
theorem grow_drawn (w : World) : ∃ V : Gr w, { w with drawn := w.drawn + 1 } = grw w V := ⟨⟨w.drew, (Below.refl _ w).drew⟩, rfl⟩
theorem wp_region_grow {P : Program} {id : Nat} {Q : Exit → Act → World → Prop} {a : Act} {w : World} {l : List Oper} (hm : P.follows .mixedOrders = true) (hB : Region.lexB .any l.toArray = true)
    (h : Nonempty (Gr w) → wpQuiet P l.toArray (fun w' => ∃ V, w' = grw w V) (fun a' => ∀ w', (∃ V, w' = grw w V) → Q .normal a' w') l a) : (Code.region id l.toArray true).wp P Q a w :=
  wp_region_quiet (C := fun w' => ∃ V, w' = grw w V) hm hB (grow_drawn w) (by simpa using h ⟨⟨w, Below.refl _ _⟩⟩)
theorem wp_region_grow_tail {P : Program} {id : Nat} {Q : Exit → Act → World → Prop} {a : Act} {w : World} {l : List Oper} (n : Nat) (hm : P.follows .mixedOrders = true) (hB : Region.lexTailB .any l.toArray n = true)
    (h : Nonempty (Gr w) → wpQuiet P l.toArray (fun w' => ∃ V, w' = grw w V) (fun a' => ∀ w', (∃ V, w' = grw w V) → wpList P l.toArray Q (l.drop n) a' w') (l.take n) a) : (Code.region id l.toArray true).wp P Q a w :=
  wp_region_quiet_tail (fun w' => ∃ V, w' = grw w V) n hm hB (grow_drawn w) (h ⟨⟨w, Below.refl _ _⟩⟩)
theorem grow_call {P : Program} {f : FuncId} {args : Array Value} {W : World} {V : Gr W} {v : Value}
    (h : Calls P f args (grw W V) fun e w' => e = .returned v ∧ Below (grw W V).heap.size (grw W V) w') : Calls P f args (grw W V) fun e w'' => e = .returned v ∧ ∃ V', w'' = grw W V' :=
  h.mono fun _ w'' ⟨he, hb⟩ => ⟨he, ⟨w'', below_then (grw_below W V) hb⟩, rfl⟩
theorem grow_same {P : Program} {f : FuncId} {args : Array Value} {W : World} {V : Gr W} {v : Value}
    (h : Calls P f args (grw W V) fun e w' => e = .returned v ∧ w' = grw W V) : Calls P f args (grw W V) fun e w'' => e = .returned v ∧ ∃ V', w'' = grw W V' :=
  h.mono fun _ w'' ⟨he, hb⟩ => ⟨he, V, hb⟩
theorem grow_drew {P : Program} {f : FuncId} {args : Array Value} {W : World} {V : Gr W} {v : Value}
    (h : Calls P f args (grw W V) fun e w' => e = .returned v ∧ ∃ m, w' = (grw W V).drewN m) : Calls P f args (grw W V) fun e w'' => e = .returned v ∧ ∃ V', w'' = grw W V' :=
  h.mono fun _ w'' ⟨he, m, hb⟩ => ⟨he, ⟨w'', by rw [hb]; exact (grw_below W V).trans ⟨rfl, rfl, rfl, Nat.le_refl _, fun _ _ => rfl⟩⟩, rfl⟩
end Go.Proofs.YtodandipfjamnaaGreatDoor
namespace Go.Proofs.YtodandipfjamnaaGreatDoor
set_option linter.unusedVariables false
set_option linter.unusedSimpArgs false
open Go.RowKit
/-- The digits of k ahead of what is there. -/
def mtF : Nat → Nat → List UInt8 → List UInt8
  | 0, _, out => out
  | f + 1, k, out => if k = 0 then out else mtF f (k / 10) (UInt8.ofNat (48 + k % 10) :: out)
theorem mtF_zero (f : Nat) (out : List UInt8) : mtF f 0 out = out := by cases f <;> rfl
theorem mtF_pos {f k : Nat} (h : 0 < k) (out : List UInt8) : mtF (f + 1) k out = mtF f (k / 10) (UInt8.ofNat (48 + k % 10) :: out) := by rw [mtF, if_neg (by omega)]
def mtB (k : Nat) : ByteArray := ⟨(109 :: mtF 8 k []).toArray⟩
theorem convM {P : Program} (src e dst : TypeId) (hs : P.underlying src = some (.slice e)) (he : P.underlying e = some (.int .u8)) (hd : P.underlying dst = some .string) (w : World) (b cap : Nat) (x : Int) (hc : w.cell? ⟨b, 0, none⟩ = some (.int .u8 x)) :
    (convert src dst (.slice (some ⟨b, 0, none⟩) 1 cap)).run P w = .ok (.string ⟨#[UInt8.ofNat x.toNat]⟩) w :=
  run_convert_bytes_arg (P := P) w src e hs he b 0 1 cap [x] rfl (fun i hi => by obtain rfl : i = 0 := by omega
                                                                                 exact hc) dst hd
theorem mt_eq (r : Nat) (l : List UInt8) : Value.string (⟨#[48 + UInt8.ofNat r]⟩ ++ ⟨l.toArray⟩) = .string ⟨(UInt8.ofNat (48 + r) :: l).toArray⟩ := by
  have h : (ByteArray.mk #[48 + UInt8.ofNat r] ++ ByteArray.mk l.toArray) = ⟨(UInt8.ofNat (48 + r) :: l).toArray⟩ := by
    apply bytes_ext
    rw [Go.Joins.data_append]; simp
  rw [h]
set_option maxHeartbeats 1000000 in
theorem markText_any (k : Nat) (w : World) (h1 : 0 < k) (h2 : k ≤ 4194304) :
    Calls Tryz.prog 40 #[.int .i64 (k : Int)] w fun e w' => e = .returned (.string (mtB k)) ∧ Below w.heap.size w w' := by
  have kb := fun (w : World) (b cap : Nat) (x : Int) => convM (P := Tryz.prog) 80 5 9 Tryz.underlying80 Tryz.underlying5 Tryz.underlying9 w b cap x
  have hn0 : ¬ (k : Int) ≤ 0 := by omega
  go_enter Tryz.func40, Tryz.ntmps40
  go_wp2
  go_loopw [0, 3] (fun kk o wr => ∃ (f j : Nat) (l : List UInt8), kk = .int .i64 (j : Int) ∧ o = .string ⟨l.toArray⟩ ∧ mtF 8 k [] = mtF f j l ∧ j < 10 ^ f ∧ l.length + f ≤ 8 ∧ j ≤ 4194304 ∧ Below w.heap.size w wr) (fun kk _ _ => (intOf kk).toNat)
  case atStart => exact ⟨8, k, [], rfl, rfl, rfl, by omega, by simp, h2, Below.refl _ _⟩
  case round =>
    obtain ⟨f, j, l, rfl, rfl, hj, hjf, hl, hjm, hbw⟩ := hrel
    have HJ : Hid (mtF 8 k [] = mtF f j l) := hj
    have hsl : (ByteArray.mk l.toArray).size ≤ 8 := by show l.toArray.size ≤ _; simp; omega
    clear hj
    by_cases h0 : 0 < j
    · have hp : (0 : Int) < (j : Int) := by omega
      obtain ⟨f, rfl⟩ : ∃ f', f = f' + 1 := by
        cases f with
        | zero => simp at hjf; omega
        | succ f => exact ⟨f, rfl⟩
      obtain ⟨q, r, hqr, hr⟩ : ∃ q r : Nat, j = 10 * q + r ∧ r < 10 := ⟨j / 10, j % 10, by omega, by omega⟩
      have HS : Hid (mtF 8 k [] = mtF f q (UInt8.ofNat (48 + r) :: l)) := by
        show _ = _
        rw [HJ.out, mtF_pos h0, show j / 10 = q from by omega, show j % 10 = r from by omega]
      have hqf : q < 10 ^ f := by rw [Nat.pow_succ] at hjf; omega
      have HQF := hideB2 hqf
      have HLF := hideB2 hl
      have e1 : IntKind.i64.wrap ((j : Int) / 10) = (q : Int) := by rw [IntKind.wrap_i64]; omega
      have e2 : ((j : Int)).tmod 10 = (r : Int) := by rw [Int.tmod_eq_emod_of_nonneg (by omega)]; omega
      have e3 : IntKind.i64.wrap (48 + (r : Int)) = 48 + (r : Int) := by rw [IntKind.wrap_i64]; omega
      have e4 : IntKind.u8.wrap (48 + (r : Int)) = 48 + (r : Int) := by rw [IntKind.wrap_u8]; omega
      have HQ : Hid (j = 10 * q + r) := hqr
      have hl9 : l.length ≤ 8 := by omega
      clear hqr hqf hl hjf
      go_wp2
      go_round
      case rel => exact ⟨f, q, UInt8.ofNat (48 + r) :: l, by go_num, mt_eq r l, HS.out, HQF.out, by have := HLF.out; simp; omega, by have := HQ.out; omega, hbw.alloc hbw.size _⟩
      case measure => have := HQ.out; simp [intOf] <;> omega
    · have hp : ¬ (0 : Int) < (j : Int) := by omega
      have HE : Hid (mtB k = ⟨#[109]⟩ ++ ⟨l.toArray⟩) := by
        show _ = _
        obtain rfl : j = 0 := by omega
        unfold mtB; rw [HJ.out, mtF_zero]
        apply bytes_ext
        rw [Go.Joins.data_append]; simp
      go_wp2
      go_ret
      exact ⟨ret_str HE.out, hbw⟩
theorem grown_then {w w1 w2 : World} {r : Option Nat} (h : w.grownBy w1 r) (hb : Below w1.heap.size w1 w2) : w.grownBy w2 r :=
  ⟨hb.os.trans h.os, hb.tape.trans h.tape, hb.output.trans h.output, Nat.le_trans h.size hb.size, fun k hk hn => by rw [hb.block k (Nat.lt_of_lt_of_le hk h.size)]; exact h.block k hk hn⟩
theorem grown_set {w w1 : World} {g : Nat} (h : w.grownBy w1 (some g)) (o : Nat) (u : Value) : w.grownBy (w1.setCell ⟨g, o, none⟩ u) (some g) :=
  World.grownBy.trans h ⟨rfl, rfl, rfl, by simp [World.setCell], fun k _ hne => Below.heap_setCell _ _ _ _ (fun e => hne (by simp at e; rw [e]))⟩
theorem grown_refl (w : World) (r : Option Nat) : w.grownBy w r := ⟨rfl, rfl, rfl, Nat.le_refl _, fun _ _ _ => rfl⟩
theorem Blk.gb {w w' : World} {b : Nat} {c : Array Value} {t : TypeId} {r : Option Nat} (h : Blk w b c t) (k : w.grownBy w' r) (hne : r ≠ some b) : Blk w' b c t := by
  unfold Blk at *
  rw [k.block b (Array.getElem?_eq_some_iff.1 h).1 (fun e => hne e.symm)]
  exact h
theorem grown_below {w w1 w2 : World} {B : Nat} {r : Option Nat} (h : Below B w w1) (k : w1.grownBy w2 r) (hr : ∀ g, r = some g → B ≤ g) (hB : B ≤ w1.heap.size) : Below B w w2 :=
  h.trans ⟨k.os, k.tape, k.output, k.size, fun b hb => k.block b (by omega) (fun e => by have := hr b e.symm; omega)⟩
end Go.Proofs.YtodandipfjamnaaGreatDoor
namespace Go.Proofs.YtodandipfjamnaaGreatDoor
set_option linter.unusedVariables false
set_option linter.unusedSimpArgs false
open Go.RowKit
/-- The marks of n fields. -/
def marksF (n : Nat) : List Fd := (List.range n).map fun i => (mtB (2 * i + 1), mtB (2 * i + 2))
theorem marksF_len (n : Nat) : (marksF n).length = n := by simp [marksF]
theorem marksF_at (n j : Nat) (h : j < n) : fdAt (marksF n) j = (mtB (2 * j + 1), mtB (2 * j + 2)) := by
  rw [fdAt_get (by rw [marksF_len]; exact h)]; simp [marksF]
theorem marksF_next (l : List Fd) (k : Nat) (h : k < l.length) : (marksF k ++ l.drop k).set k (mtB (2 * k + 1), mtB (2 * k + 2)) = marksF (k + 1) ++ l.drop (k + 1) := by
  rw [List.set_append_right _ _ (by rw [marksF_len]; exact Nat.le_refl _), marksF_len, Nat.sub_self, List.drop_eq_getElem_cons h, List.set_cons_zero]
  simp [marksF, List.range_succ]
theorem fdAt_set (l : List Fd) (k : Nat) (x : Fd) (h : k < l.length) : fdAt (l.set k x) k = x := by
  rw [fdAt_get (by rw [List.length_set]; exact h), List.getElem_set]; simp
theorem fdAt_set_ne (l : List Fd) (k j : Nat) (x : Fd) (h : j < l.length) (hne : j ≠ k) : fdAt (l.set k x) j = fdAt l j := by
  rw [fdAt_get (by rw [List.length_set]; exact h), List.getElem_set, if_neg (Ne.symm hne), fdAt_get h]
/-- Number k gets a new name. -/
theorem RowF.setN {w : World} {b : Nat} {l : List Fd} (h : RowF w b l) (k : Nat) (d : ByteArray) (hk : k < l.length) : RowF (w.setCell ⟨b, k * 2, none⟩ (.string d)) b (l.set k (d, (fdAt l k).2)) := by
  refine ⟨fun j hj => ?_, fun j hj => ?_, fun j => ?_, by simpa [World.setCell] using h.lt⟩
  · rw [List.length_set] at hj
    by_cases e : j = k
    · subst e
      rw [fdAt_set l j _ hj, World.cell?_setCell_same _ _ _ (h.dat j hj)]
    · rw [fdAt_set_ne l k j _ hj e, World.cell?_setCell_other _ _ _ _ (by intro hh; injection hh with _ h2; omega), h.dat j hj]
  · rw [List.length_set] at hj
    rw [World.cell?_setCell_other _ _ _ _ (by intro hh; injection hh with _ h2; omega), h.saf j hj]
    by_cases e : j = k
    · subst e
      rw [fdAt_set l j _ hj]
    · rw [fdAt_set_ne l k j _ hj e]
  · rw [World.frozen?_setCell]
    exact h.free j
/-- Number k gets a new value. -/
theorem RowF.setV {w : World} {b : Nat} {l : List Fd} (h : RowF w b l) (k : Nat) (d : ByteArray) (hk : k < l.length) : RowF (w.setCell ⟨b, k * 2 + 1, none⟩ (.string d)) b (l.set k ((fdAt l k).1, d)) := by
  refine ⟨fun j hj => ?_, fun j hj => ?_, fun j => ?_, by simpa [World.setCell] using h.lt⟩
  · rw [List.length_set] at hj
    rw [World.cell?_setCell_other _ _ _ _ (by intro hh; injection hh with _ h2; omega), h.dat j hj]
    by_cases e : j = k
    · subst e
      rw [fdAt_set l j _ hj]
    · rw [fdAt_set_ne l k j _ hj e]
  · rw [List.length_set] at hj
    by_cases e : j = k
    · subst e
      rw [fdAt_set l j _ hj, World.cell?_setCell_same _ _ _ (h.saf j hj)]
    · rw [fdAt_set_ne l k j _ hj e, World.cell?_setCell_other _ _ _ _ (by intro hh; injection hh with _ h2; omega), h.saf j hj]
  · rw [World.frozen?_setCell]
    exact h.free j
set_option maxHeartbeats 2000000 in
theorem markFieldS_any (v : Value) (l : List Fd) (w : World) (hv : SlF w v l) (hm : l.length ≤ 1048576) :
    Calls Tryz.prog 30 #[v, .int .i64 1] w fun e w' => e = .returned (.int .i64 (1 + 2 * (l.length : Int))) ∧ SlF w' v (marksF l.length) ∧ w.grownBy w' v.ownBlock := by
  obtain ⟨a, c0, rfl⟩ := hv.form
  generalize hn : l.length = n at *
  have HN := hideB2 hn
  have HV := hideB2 hv
  clear hn hv
  go_enter Tryz.func30, Tryz.ntmps30
  go_wp2
  go_loopw [1, 5] (fun kk i wr => ∃ k : Nat, k ≤ n ∧ i = .int .i64 k ∧ kk = .int .i64 (1 + 2 * (k : Int)) ∧ SlF wr (.slice a n c0) (marksF k ++ l.drop k) ∧ w.grownBy wr (Value.slice a n c0).ownBlock) (fun _ i _ => n - (intOf i).toNat)
  case atStart => exact ⟨0, Nat.zero_le _, rfl, rfl, by simpa [marksF] using HV.out, grown_refl _ _⟩
  case round =>
    obtain ⟨k, hk, rfl, rfl, hs, hgr⟩ := hrel
    have hlen : (marksF k ++ l.drop k).length = n := by rw [List.length_append, marksF_len, List.length_drop, HN.out]; omega
    by_cases hlt : k < n
    · obtain ⟨b, rfl, hr⟩ := hs.row (by rw [hlen]; omega)
      have HNX := hideB2 (marksF_next l k (by rw [HN.out]; exact hlt))
      have HLN := hideB2 hlen
      have HR := hideB2 hr
      have HGR := hideB2 hgr
      clear hr hgr hs hlen
      have e0 : 1 + 2 * (k : Int) = ((2 * k + 1 : Nat) : Int) := by omega
      rw [e0]
      go_wp2_with fail
      refine (markText_any (2 * k + 1) _ (by omega) (by omega)).mono ?_
      rintro e w2 ⟨rfl, hb2⟩
      have hr2 := HR.out.keep hb2
      have hd0 := hr2.dat k (by rw [HLN.out]; exact hlt)
      have hf0 := hr2.free (k * 2)
      have R1 := hr2.setN k (mtB (2 * k + 1)) (by rw [HLN.out]; exact hlt)
      have G1 := grown_set (grown_then HGR.out hb2) (k * 2) (.string (mtB (2 * k + 1)))
      have HR1 := hideB2 R1
      have HG1 := hideB2 G1
      clear R1 G1 hr2 hb2 HR HGR e0
      generalize hm1 : mtB (2 * k + 1) = mt at *
      have HM1 := hideB2 hm1
      clear hm1
      have e1 : IntKind.i64.wrap (((2 * k + 1 : Nat) : Int) + 1) = ((2 * k + 2 : Nat) : Int) := by rw [IntKind.wrap_i64]; omega
      go_wp2_with fail
      have e2 : ((2 * k + 1 : Nat) : Int) + 1 = ((2 * k + 2 : Nat) : Int) := by omega
      first | rw [e2] | skip
      refine (markText_any (2 * k + 2) _ (by omega) (by omega)).mono ?_
      rintro e w3 ⟨rfl, hb3⟩
      have hr3 := HR1.out.keep hb3
      have hlen3 : ((marksF k ++ l.drop k).set k (mt, (fdAt (marksF k ++ l.drop k) k).2)).length = n := by rw [List.length_set]; exact HLN.out
      have hd1 := hr3.saf k (by rw [hlen3]; exact hlt)
      have hf1 := hr3.free (k * 2 + 1)
      have R2 := hr3.setV k (mtB (2 * k + 2)) (by rw [hlen3]; exact hlt)
      rw [fdAt_set _ k _ (by rw [HLN.out]; exact hlt), List.set_set] at R2
      simp only at R2
      rw [HNX.out] at R2
      have HR2 := hideB2 R2
      have HG2 := hideB2 (grown_set (grown_then HG1.out hb3) (k * 2 + 1) (.string (mtB (2 * k + 2))))
      clear R2 hr3 hb3 HR1 HG1 HNX HM1 hd0 hf0
      generalize (fdAt ((marksF k ++ l.drop k).set k (mt, (fdAt (marksF k ++ l.drop k) k).2)) k).2 = y1 at *
      generalize mtB (2 * k + 2) = mt2 at *
      go_wp2
      refine ⟨⟨k + 1, by omega, by go_num, by simp; omega, ?_, HG2.out⟩, by simp [intOf]; omega⟩
      exact HR2.out.sl (by rw [List.length_append, marksF_len, List.length_drop, HN.out]; omega) c0
    · obtain rfl : k = n := by omega
      have hsn : SlF wr (.slice a k c0) (marksF k) := by
        have hh := hs
        rwa [List.drop_of_length_le (by rw [HN.out]; exact Nat.le_refl _), List.append_nil] at hh
      go_wp2
      go_ret
      exact ⟨rfl, hsn, hgr⟩
set_option maxHeartbeats 2000000 in
theorem heldFieldS_any (v : Value) (n : Nat) (w : World) (hv : SlF w v (marksF n)) (hm : n ≤ 1048576) :
    Calls Tryz.prog 31 #[v, .int .i64 1] w fun e w' => e = .returned (.int .i64 (1 + 2 * (n : Int))) ∧ Below w.heap.size w w' := by
  obtain ⟨a, c0, rfl⟩ := hv.form
  have HV := hideB2 hv
  rw [marksF_len] at *
  clear hv
  go_enter Tryz.func31, Tryz.ntmps31
  go_wp2
  go_loopw [1, 5] (fun kk i wr => ∃ k : Nat, k ≤ n ∧ i = .int .i64 k ∧ kk = .int .i64 (1 + 2 * (k : Int)) ∧ Below w.heap.size w wr) (fun _ i _ => n - (intOf i).toNat)
  case atStart => exact ⟨0, Nat.zero_le _, rfl, rfl, Below.refl _ _⟩
  case round =>
    obtain ⟨k, hk, rfl, rfl, hb⟩ := hrel
    by_cases hlt : k < n
    · obtain ⟨b, rfl, hr⟩ := HV.out.row (by rw [marksF_len]; omega)
      have hr1 := hr.keep hb
      have p0 := hr1.dat k (by rw [marksF_len]; exact hlt)
      have p1 := hr1.saf k (by rw [marksF_len]; exact hlt)
      rw [marksF_at n k hlt] at p0 p1
      simp only at p0 p1
      have e0 : 1 + 2 * (k : Int) = ((2 * k + 1 : Nat) : Int) := by omega
      rw [e0]
      have z0 := fun V => grw_some p0 V
      have z1 := fun V => grw_some p1 V
      have HMT := hideB2 (fun V : Gr wr => markText_any (2 * k + 1) (grw wr V) (by omega) (by omega))
      have HMT2 := hideB2 (fun W : World => markText_any (2 * k + 2) W (by omega) (by omega))
      have HB := hideB2 hb
      generalize mtB (2 * k + 1) = mt at *
      generalize mtB (2 * k + 2) = mt2 at *
      have hmt : (mt.toList == mt.toList) = true := by simp
      have hmt2 : (mt2.toList == mt2.toList) = true := by simp
      clear hr hr1 hb e0 p0 p1
      go_wp2
      refine wp_region_grow ?_ ?_ ?_
      · kernel_rfl
      · kernel_rfl
      · intro hne
        repeat (go_big_quiet_step ((go_at_call 40; exact grow_call (HMT.out _))))
        refine wpQuiet_nil ?_
        rintro _ ⟨V, rfl⟩
        have hbb := hideB2 (below_then HB.out (grw_below wr V))
        have y1 := z1 V
        clear z0 z1 HMT HB
        generalize grw wr V = w3 at *
        have u1 := fun V => grw_some y1 V
        have e1 : IntKind.i64.wrap (((2 * k + 1 : Nat) : Int) + 1) = ((2 * k + 2 : Nat) : Int) := by rw [IntKind.wrap_i64]; omega
        go_wp2
        have e2 : ((2 * k + 1 : Nat) : Int) + 1 = ((2 * k + 2 : Nat) : Int) := by omega
        first | rw [e2] | skip
        refine wp_region_grow ?_ ?_ ?_
        · kernel_rfl
        · kernel_rfl
        · intro hne
          repeat (go_big_quiet_step ((go_at_call 40; exact grow_call (HMT2.out _))))
          refine wpQuiet_nil ?_
          rintro _ ⟨V, rfl⟩
          have hbc := hideB2 (below_then hbb.out (grw_below w3 V))
          clear u1 hbb HMT2
          generalize grw w3 V = w4 at *
          go_wp2
          exact ⟨⟨k + 1, by omega, by go_num, by simp; omega, hbc.out⟩, by simp [intOf]; omega⟩
    · obtain rfl : k = n := by omega
      go_wp2
      go_ret
      exact ⟨rfl, hb⟩
theorem SlF.own_lt {w : World} {s : Value} {l : List Fd} (h : SlF w s l) {g : Nat} (hg : s.ownBlock = some g) : g < w.heap.size := by
  rcases h with ⟨rfl, _⟩ | ⟨b, cap, rfl, hr⟩
  · cases hg
  · injection hg with hg; subst hg; exact hr.lt
theorem RowF.gb {w w' : World} {b : Nat} {l : List Fd} {r : Option Nat} (h : RowF w b l) (k : w.grownBy w' r) (hne : r ≠ some b) : RowF w' b l := by
  have hb : w'.heap[b]? = w.heap[b]? := k.block b h.lt (fun e => hne e.symm)
  refine ⟨fun j hj => ?_, fun j hj => ?_, fun j => ?_, Nat.lt_of_lt_of_le h.lt k.size⟩
  · exact (World.cell?_of_block (w := w) hb).trans (h.dat j hj)
  · exact (World.cell?_of_block (w := w) hb).trans (h.saf j hj)
  · have hf := h.free j
    unfold World.frozen? at *
    rw [hb]; exact hf
theorem SlF.gb {w w' : World} {s : Value} {l : List Fd} {r : Option Nat} (h : SlF w s l) (k : w.grownBy w' r) (hne : ∀ g, s.ownBlock = some g → r ≠ some g) : SlF w' s l := by
  rcases h with h | ⟨b, cap, rfl, hr⟩
  · exact .inl h
  · exact .inr ⟨b, cap, rfl, hr.gb k (hne b rfl)⟩
end Go.Proofs.YtodandipfjamnaaGreatDoor
namespace Go.Proofs.YtodandipfjamnaaGreatDoor
set_option linter.unusedVariables false
set_option linter.unusedSimpArgs false
open Go.RowKit
def marks (n : Nat) : List ByteArray := (List.range n).map fun j => mtB (j + 1)
theorem marks_len (n : Nat) : (marks n).length = n := by simp [marks]
theorem marks_at {n j : Nat} (h : j < n) : (marks n).getD j ⟨#[]⟩ = mtB (j + 1) := by simp [marks, List.getD, h]
theorem bcellM {W w1 : World} (hb : Below W.heap.size W w1) : (∀ b o, b < W.heap.size → w1.cell? ⟨b, o, none⟩ = W.cell? ⟨b, o, none⟩) ∧ (∀ b o, b < W.heap.size → w1.frozen? ⟨b, o, none⟩ = W.frozen? ⟨b, o, none⟩) :=
  ⟨fun b o h => hb.cell (p := ⟨b, o, none⟩) h, fun b o h => hb.frozen (p := ⟨b, o, none⟩) h⟩
theorem BufS.spot {w0 w : World} {g n cap : Nat} {l : List ByteArray} (h : BufS w0 w (.slice (some ⟨g, 0, none⟩) n cap) l) {j : Nat} (hj : j < l.length) : w.cell? ⟨g, j, none⟩ = some (.string (l.getD j ⟨#[]⟩)) ∧ w.frozen? ⟨g, j, none⟩ = false ∧ w0.heap.size ≤ g := by
  obtain ⟨g', cap', he, hg, _, hc⟩ := h.cells (by omega)
  injection he with e1 e2 e3
  injection e1 with e1
  injection e1 with e1
  subst e1; subst e2
  exact ⟨hc j hj, h.own.frozenAt j, hg⟩
theorem BufS.stored {w0 w : World} {g cap : Nat} {l : List ByteArray} (h : BufS w0 w (.slice (some ⟨g, 0, none⟩) l.length cap) l) {j : Nat} (hg : w0.heap.size ≤ g) (y : ByteArray) : BufS w0 (w.setCell ⟨g, j, none⟩ (.string y)) (.slice (some ⟨g, 0, none⟩) l.length cap) (l.set j y) := by
  refine ⟨h.below.setCell (p := ⟨g, j, none⟩) hg _, ?_⟩
  rw [List.length_set, List.map_set]
  exact (h.own.stored j (.string y)).1
theorem marks_set (l : List ByteArray) (j : Nat) (hj : j < l.length) : (marks j ++ l.drop j).set j (mtB (j + 1)) = marks (j + 1) ++ l.drop (j + 1) := by
  rw [List.set_append_right _ _ (by rw [marks_len]; exact Nat.le_refl _), marks_len, Nat.sub_self, List.drop_eq_getElem_cons hj, List.set_cons_zero]
  simp [marks, List.range_succ]
theorem marks_part (l : List ByteArray) (j : Nat) (hj : j ≤ l.length) : (marks j ++ l.drop j).length = l.length := by
  rw [List.length_append, marks_len, List.length_drop]; omega
end Go.Proofs.YtodandipfjamnaaGreatDoor
namespace Go.Proofs.YtodandipfjamnaaGreatDoor
set_option linter.unusedVariables false
set_option linter.unusedSimpArgs false
open Go.RowKit
def txAt (l : List ByteArray) (j : Nat) : ByteArray := l.getD j ⟨#[]⟩
theorem txAt_get {l : List ByteArray} {j : Nat} (h : j < l.length) : txAt l j = l[j] := by
  unfold txAt; rw [List.getD, List.getElem?_eq_getElem h]; rfl
/-- A row of texts in block b. -/
structure RowT (w : World) (b : Nat) (l : List ByteArray) : Prop where
  cell : ∀ j, j < l.length → w.cell? ⟨b, j, none⟩ = some (.string (txAt l j))
  free : ∀ j, w.frozen? ⟨b, j, none⟩ = false
  lt : b < w.heap.size
theorem RowT.keep {w w' : World} {b : Nat} {l : List ByteArray} (h : RowT w b l) (k : Below w.heap.size w w') : RowT w' b l :=
  ⟨fun j hj => by rw [k.cell (p := ⟨b, j, none⟩) h.lt]; exact h.cell j hj, fun j => by rw [k.frozen (p := ⟨b, j, none⟩) h.lt]; exact h.free j, Nat.lt_of_lt_of_le h.lt k.size⟩
theorem RowT.set {w : World} {b : Nat} {l : List ByteArray} (h : RowT w b l) (k : Nat) (d : ByteArray) (hk : k < l.length) : RowT (w.setCell ⟨b, k, none⟩ (.string d)) b (l.set k d) := by
  refine ⟨fun j hj => ?_, fun j => ?_, by simpa [World.setCell] using h.lt⟩
  · rw [List.length_set] at hj
    rw [txAt_get (by rw [List.length_set]; exact hj), List.getElem_set]
    by_cases e : k = j
    · subst e
      rw [World.cell?_setCell_same _ _ _ (h.cell k hj), if_pos rfl]
    · rw [World.cell?_setCell_other _ _ _ _ (by intro hh; injection hh with _ h2; exact e h2), h.cell j hj, if_neg e, txAt_get hj]
  · rw [World.frozen?_setCell]
    exact h.free j
theorem RowT.gb {w w' : World} {b : Nat} {l : List ByteArray} {r : Option Nat} (h : RowT w b l) (k : w.grownBy w' r) (hne : r ≠ some b) : RowT w' b l := by
  have hb : w'.heap[b]? = w.heap[b]? := k.block b h.lt (fun e => hne e.symm)
  refine ⟨fun j hj => (World.cell?_of_block (w := w) hb).trans (h.cell j hj), fun j => ?_, Nat.lt_of_lt_of_le h.lt k.size⟩
  have hf := h.free j
  unfold World.frozen? at *
  rw [hb]; exact hf
/-- A slice of texts: nil, or a row. -/
def SlT (w : World) (v : Value) (l : List ByteArray) : Prop := (v = .slice none 0 0 ∧ l = []) ∨ ∃ b cap, v = .slice (some ⟨b, 0, none⟩) l.length cap ∧ RowT w b l
theorem SlT.later {w w' : World} {v : Value} {l : List ByteArray} (h : SlT w v l) (k : Below w.heap.size w w') : SlT w' v l := by
  rcases h with h | ⟨b, cap, e, hr⟩
  · exact .inl h
  · exact .inr ⟨b, cap, e, hr.keep k⟩
theorem SlT.form {w : World} {v : Value} {l : List ByteArray} (h : SlT w v l) : ∃ a c, v = .slice a l.length c := by
  rcases h with ⟨rfl, rfl⟩ | ⟨b, cap, rfl, _⟩
  · exact ⟨none, 0, rfl⟩
  · exact ⟨_, _, rfl⟩
theorem SlT.row {w : World} {a : Option Addr} {n c : Nat} {l : List ByteArray} (h : SlT w (.slice a n c) l) (hl : 0 < l.length) : ∃ b, a = some ⟨b, 0, none⟩ ∧ RowT w b l := by
  rcases h with ⟨_, rfl⟩ | ⟨b, cap, e, hr⟩
  · simp at hl
  · injection e with e1; exact ⟨b, e1, hr⟩
theorem SlT.rows {w : World} {a : Option Addr} {n c : Nat} {l : List ByteArray} (h : SlT w (.slice a n c) l) : RowS w a l := by
  rcases Nat.eq_zero_or_pos l.length with h0 | h0
  · exact .inl (List.eq_nil_of_length_eq_zero h0)
  · obtain ⟨b, rfl, hr⟩ := h.row h0
    exact .inr ⟨b, rfl, hr.cell⟩
theorem SlT.gb {w w' : World} {s : Value} {l : List ByteArray} {r : Option Nat} (h : SlT w s l) (k : w.grownBy w' r) (hne : ∀ g, s.ownBlock = some g → r ≠ some g) : SlT w' s l := by
  rcases h with h | ⟨b, cap, rfl, hr⟩
  · exact .inl h
  · exact .inr ⟨b, cap, rfl, hr.gb k (hne b rfl)⟩
theorem SlT.own_lt {w : World} {s : Value} {l : List ByteArray} (h : SlT w s l) {g : Nat} (hg : s.ownBlock = some g) : g < w.heap.size := by
  rcases h with ⟨rfl, _⟩ | ⟨b, cap, rfl, hr⟩
  · cases hg
  · injection hg with hg; subst hg; exact hr.lt
/-- What is handed back: a slice of texts, its memory new. -/
def AnsT (w0 w' : World) (s : Value) (L : List ByteArray) : Prop := SlT w' s L ∧ (∀ g, s.ownBlock = some g → w0.heap.size ≤ g) ∧ Below w0.heap.size w0 w'
theorem BufS.ans {w0 w : World} {v : Value} {l : List ByteArray} (h : BufS w0 w v l) : AnsT w0 w v l := by
  rcases h.own.2 with ⟨h1, h2⟩ | ⟨g, cap, cur, h1, hg, hh, _⟩
  · refine ⟨.inl ⟨h1, List.eq_nil_of_length_eq_zero h2⟩, fun g hg => ?_, h.below⟩
    rw [h1] at hg; cases hg
  · have hlt := (h.own.lt g (by rw [h1]; rfl)).2
    refine ⟨.inr ⟨g, cap, h1, ⟨fun j hj => ?_, fun j => ?_, hlt⟩⟩, fun g' hg' => ?_, h.below⟩
    · have := h.own.cells (g := g) (by rw [h1]; rfl) j (.string l[j]) (by simp [List.getElem?_eq_getElem hj])
      rw [Addr.add_lit, Nat.zero_add] at this
      rw [this, txAt_get hj]
    · have ho := h.own
      rw [h1] at ho
      exact ho.frozenAt j
    · rw [h1] at hg'
      injection hg' with hg'
      subst hg'; exact hg
/-- Its memory is none of an elder world's. -/
theorem BufS.base {w0 w1 w : World} {v : Value} {l : List ByteArray} (h : BufS w0 w v l) (hb : Below w1.heap.size w1 w0) : BufS w1 w v l := by
  refine ⟨hb.trans (h.below.mono hb.size), h.own.1, ?_⟩
  rcases h.own.2 with h2 | ⟨g, cap, cur, h1, hg, r⟩
  · exact .inl h2
  · exact .inr ⟨g, cap, cur, h1, Nat.le_trans hb.size hg, r⟩
theorem eqT_same {w : World} {l : List ByteArray} {va vb : Value} (ha : SlT w va l) (hb : SlT w vb l) (hl : l.length ≤ 1000000) :
    ∃ a b c d, va = .slice a l.length c ∧ vb = .slice b l.length d ∧ RowS w a l ∧ RowS w b l := by
  obtain ⟨a, c, rfl⟩ := ha.form
  obtain ⟨b, d, rfl⟩ := hb.form
  exact ⟨a, b, c, d, rfl, rfl, ha.rows, hb.rows⟩
end Go.Proofs.YtodandipfjamnaaGreatDoor
namespace Go.Proofs.YtodandipfjamnaaGreatDoor
set_option linter.unusedVariables false
set_option linter.unusedSimpArgs false
open Go.RowKit Go.Maps
/-- The value v is a slice of the call's own that holds the fields l; nothing that was there in w0 has turned. -/
structure BufF (w0 w : World) (v : Value) (l : List Fd) : Prop where
  below : Below w0.heap.size w0 w
  own : w.ownsRow w0.heap.size 75 2 v l.length (cellsF l)
theorem BufF.start (w : World) : BufF w w (.slice none 0 0) [] := ⟨Below.refl _ _, World.ownsRow_nil _ _ _ _⟩
theorem BufF.alloc {w0 w : World} {v : Value} {l : List Fd} (h : BufF w0 w v l) (o : Obj) : BufF w0 (w.alloc o) v l := ⟨h.below.alloc h.below.size o, h.own.alloc o⟩
theorem BufF.form {w0 w : World} {v : Value} {l : List Fd} (h : BufF w0 w v l) : ∃ (a : Option Addr) (c : Nat), v = .slice a l.length c := by
  rcases h.own.2 with ⟨h1, h2⟩ | ⟨g, cap, cur, h1, _⟩
  · exact ⟨none, 0, by rw [h1, h2]⟩
  · exact ⟨_, _, h1⟩
theorem BufF.later {w0 w w' : World} {v : Value} {l : List Fd} (h : BufF w0 w v l) (hb : Below w.heap.size w w') : BufF w0 w' v l := by
  refine ⟨h.below.trans (hb.mono h.below.size), ?_⟩
  exact h.own.kept (row := none) ⟨hb.os, hb.tape, hb.output, hb.size, fun k hk _ => hb.block k hk⟩ (by
    cases hv : v.ownBlock with
    | none => exact Or.inl rfl
    | some g => exact Or.inr (by intro e; cases e))
/-- Its memory is none of an elder world's. -/
theorem BufF.base {w0 w1 w : World} {v : Value} {l : List Fd} (h : BufF w0 w v l) (hb : Below w1.heap.size w1 w0) : BufF w1 w v l := by
  refine ⟨below_then hb h.below, h.own.1, ?_⟩
  rcases h.own.2 with h2 | ⟨g, cap, cur, h1, hg, r⟩
  · exact .inl h2
  · exact .inr ⟨g, cap, cur, h1, Nat.le_trans hb.size hg, r⟩
/-- What is handed back: a slice of fields, its memory new. -/
def AnsF (w0 w' : World) (s : Value) (L : List Fd) : Prop := SlF w' s L ∧ (∀ g, s.ownBlock = some g → w0.heap.size ≤ g) ∧ Below w0.heap.size w0 w'
theorem BufF.ans {w0 w : World} {v : Value} {l : List Fd} (h : BufF w0 w v l) : AnsF w0 w v l := by
  have ho := h.own
  rcases h.own.2 with ⟨h1, h2⟩ | ⟨g, cap, cur, h1, hg, hh, _⟩
  · refine ⟨.inl ⟨h1, List.eq_nil_of_length_eq_zero h2⟩, fun g hg => ?_, h.below⟩
    rw [h1] at hg; cases hg
  · have hlt := (h.own.lt g (by rw [h1]; rfl)).2
    rw [h1] at ho
    refine ⟨.inr ⟨g, cap, h1, ⟨fun j hj => ?_, fun j hj => ?_, fun j => ho.frozenAt j, hlt⟩⟩, fun g' hg' => ?_, h.below⟩
    · rw [ho.cellAt (j * 2) (by omega)]; exact (cellsF_at l j hj).1
    · rw [ho.cellAt (j * 2 + 1) (by omega)]; exact (cellsF_at l j hj).2
    · rw [h1] at hg'
      injection hg' with hg'
      subst hg'; exact hg
theorem wp_fapp {ops : Array Oper} {rest : List Oper} {o : Oper} {a : Act} {Q : Exit → Act → World → Prop} {w0 W : World} (hgd : o.guard = none) (s x : Operand)
    (ho : o.op = .call { callee := .builtin .append, args := #[s, x], argTypes := #[22, 22] }) (v : Value) (l : List Fd) (hs : a.eval s = v) (hbuf : BufF w0 W v l)
    (d t : ByteArray) (hx : a.eval x = .slice (some ⟨W.heap.size, 0, none⟩) 1 1) (hlen : l.length ≤ 1048576)
    (h : ∀ v' W', BufF w0 W' v' (l ++ [(d, t)]) → W.grownBy W' v.ownBlock → wpList Tryz.prog ops Q rest (a.put o.dst v') W') :
    wpList Tryz.prog ops Q (o :: rest) a (W.alloc (.cells #[.string d, .string t] 75)) := by
  obtain ⟨i0, hi, hz0, hz1, hz2⟩ := info_parts Tryz.infoF
  refine wpList_append_own _ hgd s x 22 ho w0.heap.size 75 i0 _ 2 32 Tryz.underlying22 hi hz0 hz1 hz2 rfl (by decide) v l.length (cellsF l) hs (hbuf.own.alloc _) ⟨W.heap.size, 0, none⟩ 1 1 (cellsF [(d, t)]) hx (by rw [cellsF_len]; rfl) ?_ (cellsF_one _) (by unfold maxLen; omega) (by omega) (by have := hbuf.below.size; simp; omega) ?_
  · intro j u hu
    have hj : j < 2 := by have := (List.getElem?_eq_some_iff.1 hu).1; rwa [cellsF_len] at this
    rw [Addr.add_lit, Nat.zero_add, (Blk.new W _ _).cell j, ← hu]
    rcases j with _ | _ | j
    · rfl
    · rfl
    · omega
  intro v' W' hown hgrow _
  refine h v' W' ⟨?_, ?_⟩ ((World.grownBy_alloc W _ _).trans hgrow)
  · refine (hbuf.alloc _).below.grown hgrow (by have := hbuf.below.size; simp; omega) ?_
    intro k hk
    exact (hbuf.own.lt k hk).1
  · rw [List.length_append, List.length_singleton, cellsF_app]
    exact hown
/-- A block that is a map is none of a row. -/
theorem own_ne_map {w : World} {base : Nat} {e : TypeId} {size : Nat} {v : Value} {n : Nat} {xs : List Value} (h : w.ownsRow base e size v n xs) {b : Nat} {es : Array MapEntry} {c : Nat} (hb : w.heap[b]? = some (.map es c)) : some b ≠ v.ownBlock := by
  intro hh
  rcases h.2 with ⟨h1, _⟩ | ⟨g, cap, cur, h1, _, hg, _⟩
  · rw [h1] at hh; cases hh
  · rw [h1] at hh
    injection hh with hh
    subst hh
    rw [hb] at hg
    cases hg
theorem below_gb {w w' : World} (h : Below w.heap.size w w') (r : Option Nat) : w.grownBy w' r := ⟨h.os, h.tape, h.output, h.size, fun k hk _ => h.block k hk⟩
/-- Is it the folded name of one of them? -/
def hasNm (l : List Fd) (s : List UInt8) : Bool := l.any fun x => s == (foldB x.1).data.toList
theorem hasNm_next (l : List Fd) (k : Nat) (h : k < l.length) (s : List UInt8) : hasNm (l.take (k + 1)) s = (hasNm (l.take k) s || s == (foldB (fdAt l k).1).data.toList) := by
  unfold hasNm
  rw [takeF_next l k h, List.any_append]; simp
theorem hasNm_mem {l : List Fd} {x : Fd} (h : x ∈ l) : hasNm l (foldB x.1).data.toList = true := by
  unfold hasNm
  rw [List.any_eq_true]
  exact ⟨x, h, by simp⟩
end Go.Proofs.YtodandipfjamnaaGreatDoor
namespace Go.Proofs.YtodandipfjamnaaGreatDoor
set_option linter.unusedVariables false
set_option linter.unusedSimpArgs false
open Go.RowKit Go.Maps
/-- Is the text among these? -/
def inNl (ns : List ByteArray) (s : ByteArray) : Bool := ns.any fun t => s.data.toList == t.data.toList
def elseL (l : List Fd) (ns : List ByteArray) : List Fd := l.filter fun x => !inNl ns (foldB x.1)
theorem elseL_one (l : List Fd) (n : ByteArray) : elseL l [foldB n] = l.filter fun x => !nameIs n x := by
  unfold elseL
  congr 1
  funext x
  simp [inNl, nameIs, eqB, ByteArray.toList_eq]
theorem withoutL_yes {l : List Fd} {n : ByteArray} (h : fieldsQ l = true) : withoutL l n = elseL l [foldB n] := by unfold withoutL; rw [if_pos h, elseL_one]
theorem withoutL_no {l : List Fd} {n : ByteArray} (h : fieldsQ l = false) : withoutL l n = [] := by unfold withoutL; rw [h]; rfl
theorem elseL_next (l : List Fd) (ns : List ByteArray) (k : Nat) (h : k < l.length) : elseL (l.take (k + 1)) ns = elseL (l.take k) ns ++ (if inNl ns (foldB (fdAt l k).1) = true then [] else [fdAt l k]) := by
  unfold elseL
  rw [keepF_next l _ k h]
  cases inNl ns (foldB (fdAt l k).1) <;> simp
theorem elseL_len (l : List Fd) (ns : List ByteArray) : (elseL l ns).length ≤ l.length := List.length_filter_le _ _
def leftP (l : List Fd) (ns : List ByteArray) (s : List UInt8) : Bool := hasNm l s && !(ns.any fun t => s == t.data.toList)
theorem leftP_next (l : List Fd) (ns : List ByteArray) (k : Nat) (h : k < ns.length) (s : List UInt8) : leftP l (ns.take (k + 1)) s = (leftP l (ns.take k) s && !(s == (txAt ns k).data.toList)) := by
  unfold leftP
  rw [List.take_succ_eq_append_getElem h, List.any_append, txAt_get h]
  simp only [List.any_cons, List.any_nil, Bool.or_false, Bool.not_or, Bool.and_assoc]
theorem leftP_at {l : List Fd} {ns : List ByteArray} {x : Fd} (h : x ∈ l) : leftP l ns (foldB x.1).data.toList = !inNl ns (foldB x.1) := by
  unfold leftP inNl
  rw [hasNm_mem h, Bool.true_and]
theorem fdAt_mem {l : List Fd} {k : Nat} (h : k < l.length) : fdAt l k ∈ l := by rw [fdAt_get h]; exact List.getElem_mem h
end Go.Proofs.YtodandipfjamnaaGreatDoor
namespace Go.Proofs.YtodandipfjamnaaGreatDoor
set_option linter.unusedVariables false
set_option linter.unusedSimpArgs false
open Go.RowKit Go.Maps
theorem keepN_next (l : List Fd) (n : ByteArray) (k : Nat) (h : k < l.length) : (l.take (k + 1)).filter (fun x => !nameIs n x) = (l.take k).filter (fun x => !nameIs n x) ++ (if nameIs n (fdAt l k) = true then [] else [fdAt l k]) := by
  rw [keepF_next l _ k h]
  cases nameIs n (fdAt l k) <;> simp
set_option maxHeartbeats 2000000 in
theorem sWithout_any (v : Value) (l : List Fd) (n : ByteArray) (w : World) (hv : SlF w v l) (hl : l.length ≤ 1048576) (ht : totF l ≤ 1099511627776) (hn : n.size ≤ maxLen) :
    Calls Tryz.prog 46 #[v, .string n] w fun e w' => ∃ v', e = .returned v' ∧ BufF w w' v' (withoutL l n) := by
  obtain ⟨a, c0, rfl⟩ := hv.form
  cases hq : fieldsQ l
  · have HF := hideB2 (withoutL_no (n := n) hq)
    have HQ := hideB2 hq
    clear hq
    go_enter Tryz.func46, Tryz.ntmps46
    go_wp2_with (go_at_call 70; refine (sFieldsOk_any _ l _ hv hl ht).mono ?_; rintro e w2 ⟨rfl, hb2⟩; rw [HQ.out])
    go_ret
    exact ⟨_, rfl, by rw [HF.out]; exact (BufF.start w).later hb2⟩
  · have HF := hideB2 (show withoutL l n = l.filter (fun x => !nameIs n x) by unfold withoutL; rw [if_pos hq])
    have HQ := hideB2 hq
    have HV := hideB2 hv
    have hl20 := (fieldsQ_iff.1 hq).1
    have HFQ := hideB2 (fun j (hj : j < l.length) => fieldQ_sizes (fieldsQ_at hq hj))
    have HNN := hideB2 hn
    clear hq hl hn
    generalize hm : l.length = m at *
    have HM := hideB2 hm
    clear hm hv
    go_enter Tryz.func46, Tryz.ntmps46
    go_wp2_with (go_at_call 70; refine (sFieldsOk_any _ l _ HV.out (by rw [HM.out]; omega) ht).mono ?_; rintro e w2 ⟨rfl, hb2⟩; rw [HQ.out])
    go_loopw [5, 6] (fun o i wr => ∃ k : Nat, k ≤ m ∧ i = .int .i64 k ∧ BufF w wr o ((l.take k).filter (fun x => !nameIs n x))) (fun _ i _ => m - (intOf i).toNat)
    case atStart => exact ⟨0, Nat.zero_le _, rfl, (BufF.start w).later hb2⟩
    case round =>
      obtain ⟨k, hk, rfl, hbuf⟩ := hrel
      by_cases hlt : k < m
      · have hklt : k < l.length := by rw [HM.out]; exact hlt
        obtain ⟨b, rfl, hr⟩ := HV.out.row (by omega)
        have p0 := (hr.later hbuf.below hr.lt).dat k hklt
        have p1 := (hr.later hbuf.below hr.lt).saf k hklt
        have hsz := HFQ.out k (by rw [HM.out] at hklt; exact hklt)
        have HR := hideB2 (hr.later hbuf.below hr.lt)
        have HKL := hideB2 hklt
        have HNX := hideB2 (keepN_next l n k hklt)
        have hvl : ((l.take k).filter (fun x => !nameIs n x)).length ≤ 20 := by
          have := List.length_filter_le (fun x => !nameIs n x) (l.take k)
          rw [List.length_take] at this; omega
        have HVL := hideB2 hvl
        clear hr hvl hb2
        generalize hx : fdAt l k = x at *
        have HX := hideB2 hx
        clear hx
        obtain ⟨d, s⟩ := x
        simp only at p0 p1 hsz
        have hd : d.size ≤ maxLen := by unfold maxLen; omega
        have HD := hideB2 hd
        clear hsz hd hklt
        generalize (l.take k).filter (fun x => !nameIs n x) = L at *
        cases hc : nameIs n (d, s)
        · have HC := hideB2 (show eqB (foldB d) (foldB n) = false from hc)
          rw [hc] at HNX
          clear hc
          go_wp2_with (first | (go_at_call 76; refine (sSameFold_any d n _ HD.out HNN.out).mono ?_; rintro e w3 ⟨rfl, hb3⟩; rw [HC.out]; have q0 := (HR.out.keep hb3).dat k HKL.out; have q1 := (HR.out.keep hb3).saf k HKL.out; rw [HX.out] at q0 q1; simp only at q0 q1; have hbuf3 := hbuf.later hb3) | (at_builtin; refine wp_fapp rfl (.tmp 24) (.tmp 29) rfl _ _ rfl hbuf3 d s rfl (by have := HVL.out; omega) ?_; intro v2 W2 hbuf4 hgrow4))
          refine ⟨⟨k + 1, by omega, by go_num, ?_⟩, by simp [intOf]; omega⟩
          rw [HNX.out]
          exact hbuf4
        · have HC := hideB2 (show eqB (foldB d) (foldB n) = true from hc)
          rw [hc] at HNX
          clear hc
          go_wp2_with (go_at_call 76; refine (sSameFold_any d n _ HD.out HNN.out).mono ?_; rintro e w3 ⟨rfl, hb3⟩; rw [HC.out])
          refine ⟨⟨k + 1, by omega, by go_num, ?_⟩, by simp [intOf]; omega⟩
          rw [HNX.out]
          have := hbuf.later hb3
          simpa using this
      · obtain rfl : k = m := by omega
        have HE := hideB2 (show (l.take k).filter (fun x => !nameIs n x) = withoutL l n by rw [HF.out, List.take_of_length_le (by rw [HM.out]; exact Nat.le_refl _)])
        rw [HE.out] at hbuf
        clear HE
        go_wp2
        go_ret
        exact ⟨_, rfl, hbuf⟩
theorem withL_no1 {l : List Fd} {f : Fd} (h : fieldsQ l = false) : withL l f = [] := by unfold withL; rw [if_neg (by rw [h]; simp)]
theorem withL_no2 {l : List Fd} {f : Fd} (h : fieldQ f = false) : withL l f = [] := by unfold withL; rw [if_neg (by rw [h]; simp)]
theorem withL_yes {l : List Fd} {f : Fd} (h : fieldsQ l = true) (h2 : fieldQ f = true) : withL l f = if (withoutL l f.1).length < 20 then withoutL l f.1 ++ [f] else [] := by
  unfold withL withoutL
  rw [if_pos h]
  by_cases h3 : (l.filter (fun x => !nameIs f.1 x)).length < 20
  · rw [if_pos ⟨h, h2, h3⟩, if_pos h3]
  · rw [if_neg (fun hh => h3 hh.2.2), if_neg h3]
theorem withoutL_len (l : List Fd) (n : ByteArray) : (withoutL l n).length ≤ 20 := by
  unfold withoutL
  split
  · rename_i h
    exact Nat.le_trans (List.length_filter_le _ _) (fieldsQ_iff.1 h).1
  · simp
theorem withL_len (l : List Fd) (f : Fd) : (withL l f).length ≤ 20 := by
  unfold withL
  split
  · rename_i h
    rw [List.length_append, List.length_singleton]; omega
  · simp
/-- append(x, f) inside a region that draws: f lies in block N. -/
theorem step_fapp {ops : Array Oper} {o : Oper} {a : Act} {W : World} {K : Act → World → Prop} {Q : Exit → Act → World → Prop} {E : Prop} (hgd : o.guard = none) (s x : Operand)
    (ho : o.op = .call { callee := .builtin .append, args := #[s, x], argTypes := #[22, 22] }) (w0 : World) (v : Value) (l : List Fd) (hs : a.eval s = v) (hbuf : BufF w0 W v l) (N : Nat) (d t : ByteArray)
    (hx : a.eval x = .slice (some ⟨N, 0, none⟩) 1 1) (hN : Blk W N #[.string d, .string t] 75) (hlen : l.length ≤ 20)
    (k : ∀ v' W', BufF w0 W' v' (l ++ [(d, t)]) → K (a.put o.dst v') W') :
    if Region.wanted o (yielded ops a.tmps) = true then Oper.wp Tryz.prog o a W K Q else E := by
  obtain ⟨i0, hi, hz0, hz1, hz2⟩ := info_parts Tryz.infoF
  refine step_append_lies W hgd s x 22 ho w0.heap.size 75 i0 _ 2 32 Tryz.underlying22 hi hz0 hz1 hz2 rfl (by decide) v l.length (cellsF l) hs hbuf.own ⟨N, 0, none⟩ 1 1 (cellsF [(d, t)]) hx (by rw [cellsF_len]; rfl) ?_ (cellsF_one _) (by omega) (by unfold maxLen; omega) (by omega) hbuf.below.size _ rfl ?_
  · intro j u hu
    have hj : j < 2 := by have := (List.getElem?_eq_some_iff.1 hu).1; rwa [cellsF_len] at this
    rw [Addr.add_lit, Nat.zero_add, hN.cell j, ← hu]
    rcases j with _ | _ | j
    · rfl
    · rfl
    · omega
  intro g cap w' hown hgrow _ _
  refine k _ w' ⟨?_, ?_⟩
  · refine hbuf.below.grown hgrow hbuf.below.size ?_
    intro j hj
    exact (hbuf.own.lt j hj).1
  · rw [List.length_append, List.length_singleton, cellsF_app]
    exact hown
end Go.Proofs.YtodandipfjamnaaGreatDoor
