/-
  Chapter 7: a text with its % looked at; the program's side.
-/
import Derived.Test.YtefhpjipcdmbaabGreatDoorU1
import Derived.Test.YtefhpjipcdmbaabGreatDoorSU
namespace Go.Proofs.YtefhpjipcdmbaabGreatDoor
set_option linter.unusedVariables false
set_option linter.unusedSimpArgs false
open Go.RowKit
def strLen : Value → Nat
  | .string b => b.size
  | _ => 0
/-- The byte that the first bytes of s name, or 0. -/
def namV (s : ByteArray) : Int := if hexAt s 0 = true then ((nam8 (at8 s 1) (at8 s 2)).toNat : Int) else 0
theorem namV_bd (s : ByteArray) : 0 ≤ namV s ∧ namV s ≤ 255 := by
  unfold namV
  split
  · exact ⟨u8_lo _, u8_hi _⟩
  · omega
theorem hexAt_short {s : ByteArray} (h : s.size < 3) : hexAt s 0 = false := by
  unfold hexAt; rw [decide_eq_false (by omega)]; rfl
theorem hexAt_other {s : ByteArray} (h : at8 s 0 ≠ 37) : hexAt s 0 = false := by
  unfold hexAt; rw [beq_eq_false_iff_ne.2 h]; simp
theorem hexAt_rhex {s : ByteArray} (h3 : 3 ≤ s.size) (h : at8 s 0 = 37) : rhexOk (s.extract 1 3) = hexAt s 0 ∧ rhexN (s.extract 1 3) = namV s := by
  obtain ⟨e1, e2⟩ := rhex_two h3 0 (by omega)
  have e0 : hexAt s 0 = (hexP (at8 s (0 + 1)) && hexP (at8 s (0 + 2))) := by
    unfold hexAt; rw [decide_eq_true (by omega), beq_iff_eq.2 h]; rfl
  have e3 : rhexOk (s.extract 1 3) = hexAt s 0 := by rw [e0]; exact e1
  refine ⟨e3, ?_⟩
  unfold namV
  cases hh : hexAt s 0
  · rw [if_neg (by simp)]
    have : rhexOk (s.extract 1 3) = false := by rw [e3, hh]
    unfold rhexN; rw [this]; rfl
  · rw [if_pos rfl]
    exact e2 (by rw [show s.extract (0 + 1) (0 + 3) = s.extract 1 3 from rfl, e3, hh])
theorem ne37 {n : UInt8} (h : n ≠ 37) : ((n.toNat : Int) != 37) = true := by
  rw [bne_iff_ne]
  intro hh
  exact h (UInt8.toNat_inj.1 (by have : n.toNat = 37 := by omega
                                 rw [this]; rfl))
set_option maxHeartbeats 1000000 in
theorem namedByte_any (s : ByteArray) (w : World) (hs : s.size ≤ maxLen) :
    Calls Tryz.prog 98 #[.string s] w fun e w' => e = .returned (.tuple #[.int .u8 (namV s), .bool (hexAt s 0)]) ∧ w' = w := by
  unfold maxLen at hs
  by_cases h3 : s.size < 3
  · have e0 := hexAt_short h3
    have e1 : namV s = 0 := by unfold namV; rw [e0]; rfl
    rw [e0, e1]
    have h3' : (s.size : Int) < 3 := by omega
    clear e0 e1
    go_enter Tryz.func98, Tryz.ntmps98
    go_wp2
    go_ret2
    exact ⟨rfl, rfl⟩
  · have h3' : ¬ (s.size : Int) < 3 := by omega
    have h0 : 0 < s.size := by omega
    have hat : s[0]'h0 = at8 s 0 := at8_eq s 0 h0
    by_cases h37 : at8 s 0 = 37
    · obtain ⟨e0, e1⟩ := hexAt_rhex (by omega) h37
      have hb : ((s[0].toNat : Int) != 37) = false := by rw [hat, h37]; rfl
      have HB := namV_bd s
      have HR := hideB2 (fun W => ReadHex_any (s.extract 1 3) W (by rw [ByteArray.size_extract]; unfold maxLen; omega))
      rw [e0, e1] at HR
      clear e0 e1 hat h37
      generalize namV s = v at *
      generalize hexAt s 0 = q at *
      have e1 : IntKind.u8.wrap v = v := by rw [IntKind.wrap_u8]; omega
      have c1 : (3 : Int) ≤ (s.size : Int) := by omega
      generalize hx : s.extract 1 3 = x at *
      go_enter Tryz.func98, Tryz.ntmps98
      go_wp2_with (go_at_call 115; first | rw [hx] | skip; refine (HR.out _).mono ?_; rintro e w' ⟨rfl, rfl⟩)
      go_ret2
      first | exact ⟨rfl, rfl⟩ | (rw [e1]; exact ⟨rfl, rfl⟩)
    · have e0 := hexAt_other h37
      have e1 : namV s = 0 := by unfold namV; rw [e0]; rfl
      have hb : ((s[0].toNat : Int) != 37) = true := by rw [hat]; exact ne37 h37
      rw [e0, e1]
      clear e0 e1 hat
      go_enter Tryz.func98, Tryz.ntmps98
      go_wp2
      go_ret2
      exact ⟨rfl, rfl⟩
theorem Tryz.extraU : Builder.Extra Tryz.prog Tryz.lays158_ren := { sizeBuilder := by kernel_rfl, liesBuilder := by kernel_rfl, t5 := Tryz.underlying5, a5 := Tryz.isAgg5, z5 := Tryz.sizeOf5, v5 := Tryz.zeroValue5, infoByte := by kernel_rfl, cellsByte := by kernel_rfl, sizeByte := by kernel_rfl, neB5 := by decide }
theorem upperB_up8 (b : UInt8) : Lib.upperB b = up8 b := by
  unfold Lib.upperB up8 Lib.isLowerB
  by_cases h : 97 ≤ b.toNat ∧ b.toNat ≤ 122
  · rw [if_pos h, if_pos]
    rw [Bool.and_eq_true, decide_eq_true_eq, decide_eq_true_eq]
    exact ⟨UInt8.le_iff_toNat_le.2 h.1, UInt8.le_iff_toNat_le.2 h.2⟩
  · rw [if_neg h, if_neg]
    rw [Bool.and_eq_true, decide_eq_true_eq, decide_eq_true_eq]
    rintro ⟨h1, h2⟩
    exact h ⟨UInt8.le_iff_toNat_le.1 h1, UInt8.le_iff_toNat_le.1 h2⟩
theorem hexP_ascii {b : UInt8} (h : hexP b = true) : b.toNat < 128 := by
  unfold hexP hex8 hexV at h
  have h0 : 0 ≤ (if digP (b.toNat : Int) = true then (b.toNat : Int) - 48 else if 97 ≤ lowI (b.toNat : Int) ∧ lowI (b.toNat : Int) ≤ 102 then lowI (b.toNat : Int) - 87 else -1) := of_decide_eq_true h
  split at h0
  · rename_i hd; rw [digP_iff] at hd; omega
  · split at h0
    · rename_i hl
      unfold lowI at hl
      split at hl
      · omega
      · omega
    · omega
theorem up3 {s : ByteArray} (h : hexAt s 0 = true) : (s.extract 0 3).data.toList = [37, at8 s 1, at8 s 2] := by
  obtain ⟨h1, h2, h3, h4⟩ := hexAt_iff.1 h
  rw [Lib.extract_data, drop_at8 (i := 0) (by omega), drop_at8 (i := 0 + 1) (by omega), drop_at8 (i := 0 + 1 + 1) (by omega), h2]
  rfl
set_option maxHeartbeats 1000000 in
theorem upper3_any (s : ByteArray) (w : World) (h : hexAt s 0 = true) :
    Calls Tryz.prog 100 #[.string (s.extract 0 3)] w fun e w' => e = .returned (.string ⟨#[37, up8 (at8 s 1), up8 (at8 s 2)]⟩) ∧ Below w.heap.size w w' := by
  have e := up3 h
  obtain ⟨h1, h2, h3, h4⟩ := hexAt_iff.1 h
  refine (Any.strings_ToUpper_ascii Tryz.lays158 Tryz.extraU (s.extract 0 3) w (by rw [ByteArray.size_extract]; omega) ?_).mono ?_
  · intro j b hj
    rw [e] at hj
    have hm := List.mem_of_getElem? hj
    simp only [List.mem_cons, List.not_mem_nil, or_false] at hm
    rcases hm with rfl | rfl | rfl
    · decide
    · exact hexP_ascii h3
    · exact hexP_ascii h4
  · rintro e1 w' ⟨rfl, hb⟩
    refine ⟨?_, hb⟩
    rw [e]
    show Ending.returned (.string ⟨#[Lib.upperB 37, Lib.upperB (at8 s 1), Lib.upperB (at8 s 2)]⟩) = _
    rw [upperB_up8, upperB_up8, upperB_up8]
    rfl
theorem evP_miss {s : ByteArray} (h : hexAt s 0 = false) : evP s = s.extract 0 1 ∧ evN s = 1 := by
  unfold evP evN; rw [h]; exact ⟨rfl, rfl⟩
theorem evP_hit {s : ByteArray} (h : hexAt s 0 = true) : evP s = ⟨(pctP (at8 s 1) (at8 s 2)).toArray⟩ ∧ evN s = 3 := by
  unfold evP evN; rw [h]; exact ⟨rfl, rfl⟩
set_option maxHeartbeats 2000000 in
theorem evenPart_any (s : ByteArray) (w : World) (hs : s.size ≤ maxLen) (hpos : 0 < s.size) :
    Calls Tryz.prog 77 #[.string s] w fun e w' => e = .returned (.tuple #[.string (evP s), .int .i64 (evN s)]) ∧ Below w.heap.size w w' := by
  have HN := hideB2 (fun W => namedByte_any s W hs)
  have HB := namV_bd s
  unfold maxLen at hs
  cases hq : hexAt s 0
  · obtain ⟨e1, e2⟩ := evP_miss hq
    rw [e1, e2]
    rw [hq] at HN
    have c1 : (1 : Int) ≤ (s.size : Int) := by omega
    clear e1 e2 hq
    generalize namV s = v at *
    go_enter Tryz.func77, Tryz.ntmps77
    go_wp2_with (go_at_call 98; refine (HN.out _).mono ?_; rintro e w' ⟨rfl, rfl⟩)
    go_ret2
    exact ⟨rfl, Below.refl _ _⟩
  · obtain ⟨e1, e2⟩ := evP_hit hq
    rw [e1, e2]
    have ev : namV s = ((nam8 (at8 s 1) (at8 s 2)).toNat : Int) := by unfold namV; rw [hq]; rfl
    have hp : opn8 (nam8 (at8 s 1) (at8 s 2)) = opnP (namV s) := by rw [ev]; rfl
    have h3 := (hexAt_iff.1 hq).1
    have HU := hideB2 (fun W => upper3_any s W hq)
    have HO := hideB2 (fun W => openByte_any (namV s) W HB.1 HB.2)
    have c1 : (3 : Int) ≤ (s.size : Int) := by omega
    rw [hq] at HN
    unfold pctP
    rw [hp]
    clear e1 e2 hq hp
    cases ho : opnP (namV s)
    · rw [ho] at HO
      rw [if_neg (by simp)]
      clear ho ev
      generalize namV s = v at *
      generalize hx : s.extract 0 3 = x at *
      generalize up8 (at8 s 1) = y1 at *
      generalize up8 (at8 s 2) = y2 at *
      go_enter Tryz.func77, Tryz.ntmps77
      go_wp2_with (first | (go_at_call 98; refine (HN.out _).mono ?_; rintro e w' ⟨rfl, rfl⟩) | (go_at_call 99; refine (HO.out _).mono ?_; rintro e w' ⟨rfl, rfl⟩) | (go_at_call 100; (try rw [hx]); refine (HU.out _).mono ?_; rintro e w' ⟨rfl, hb⟩))
      go_ret2
      exact ⟨rfl, hb⟩
    · rw [ho] at HO
      rw [if_pos rfl]
      clear ho
      generalize nam8 (at8 s 1) (at8 s 2) = y at *
      have kb := fun W => (Buf.one W (namV s) y ev).text
      have HBL := hideB2 (below_a1 w (.cells #[.int .u8 (namV s)] 5))
      clear HU
      generalize namV s = v at *
      have HE := hideB2 ev
      clear ev
      go_enter Tryz.func77, Tryz.ntmps77
      go_wp2_with (first | (go_at_call 98; refine (HN.out _).mono ?_; rintro e w' ⟨rfl, rfl⟩) | (go_at_call 99; refine (HO.out _).mono ?_; rintro e w' ⟨rfl, rfl⟩))
      go_ret2
      exact ⟨rfl, HBL.out⟩
theorem evP_le (s : ByteArray) : (evP s).size ≤ evN s := by
  unfold evP evN
  split
  · show (pctP _ _).toArray.size ≤ 3
    simpa using pctP_len _ _
  · rw [ByteArray.size_extract]; omega
theorem evB_nil {s : ByteArray} (h : s.size = 0) : evB s = ⟨#[]⟩ := by
  have e : s.data.toList = [] := List.eq_nil_of_length_eq_zero (by rw [len_data]; exact h)
  unfold evB
  rw [e]
  rfl
theorem bytes_assoc (a b c : ByteArray) : (a ++ b) ++ c = a ++ (b ++ c) := by
  apply bytes_ext
  simp [Go.Joins.data_append]
theorem bytes_nil_right (a : ByteArray) : a ++ (⟨#[]⟩ : ByteArray) = a := by
  apply bytes_ext
  simp [Go.Joins.data_append]
theorem bytes_nil_left (a : ByteArray) : (⟨#[]⟩ : ByteArray) ++ a = a := by
  apply bytes_ext
  simp [Go.Joins.data_append]
theorem empty_of {s : ByteArray} (h : s.size = 0) : s.toList.isEmpty = true := by
  rw [ByteArray.toList_eq, List.isEmpty_iff, ← List.length_eq_zero_iff, Array.length_toList]; exact h
theorem nonempty_of {s : ByteArray} (h : s.size ≠ 0) : s.toList.isEmpty = false := by
  rw [ByteArray.toList_eq, List.isEmpty_eq_false_iff]
  intro hh
  apply h
  show s.data.size = 0
  rw [← Array.length_toList, hh]; rfl
set_option maxHeartbeats 2000000 in
theorem evenPercents_any (s : ByteArray) (w : World) (hs : s.size ≤ 1048576) :
    Calls Tryz.prog 47 #[.string s] w fun e w' => e = .returned (.string (evB s)) ∧ Below w.heap.size w w' := by
  generalize hR : evB s = R
  have HR := hideB2 hR
  clear hR
  go_enter Tryz.func47, Tryz.ntmps47
  go_wp2
  go_loopw [0, 3] (fun sv ov wr => ∃ x y : ByteArray, sv = .string x ∧ ov = .string y ∧ y ++ evB x = R ∧ y.size + x.size ≤ 1048576 ∧ Below w.heap.size w wr) (fun sv _ _ => strLen sv)
  case atStart => exact ⟨s, ⟨#[]⟩, rfl, rfl, by rw [bytes_nil_left]; exact HR.out, by show 0 + s.size ≤ _; omega, Below.refl _ _⟩
  case round =>
    obtain ⟨x, y, rfl, rfl, hy, hsz, hb⟩ := hrel
    have HY := hideB2 hy
    have HB := hideB2 hb
    clear hy hb
    by_cases hx : x.size = 0
    · have hne := empty_of hx
      have HF := hideB2 (show R = y by rw [← HY.out, evB_nil hx, bytes_nil_right])
      clear hx
      go_wp2
      go_ret
      exact ⟨ret_str HF.out, HB.out⟩
    · have hne := nonempty_of hx
      have HE := hideB2 (fun W => evenPart_any x W (by unfold maxLen; omega) (by omega))
      have hst := evB_step (s := x) (by omega)
      have hl := evN_le (s := x) (by omega)
      have hp := evN_pos x
      have hle := evP_le x
      have HS := hideB2 (show (y ++ evP x) ++ evB (x.extract (evN x) x.size) = R by rw [bytes_assoc, ← hst]; exact HY.out)
      have hez : (x.extract (evN x) x.size).size = x.size - evN x := by rw [ByteArray.size_extract]; omega
      have hya : (y ++ evP x).size = y.size + (evP x).size := ByteArray.size_append
      have HZ := hideB2 (show (y ++ evP x).size + (x.extract (evN x) x.size).size ≤ 1048576 by omega)
      have HM := hideB2 (show (x.extract (evN x) x.size).size < x.size by omega)
      clear hst hez hya
      generalize evP x = p at *
      generalize evN x = n at *
      have c1 : (0 : Int) ≤ (n : Int) := by omega
      have c2 : (n : Int) ≤ (x.size : Int) := by omega
      go_wp2_with fail
      refine (HE.out _).mono ?_
      rintro e w1 ⟨rfl, hb1⟩
      have HB1 := hideB2 (below_then HB.out hb1)
      clear hb1 HB
      go_wp2
      go_roundw
      case rel => exact ⟨_, _, rfl, rfl, HS.out, HZ.out, HB1.out⟩
      case measure => exact HM.out
end Go.Proofs.YtefhpjipcdmbaabGreatDoor
