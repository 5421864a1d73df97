/-
  Chapter 7: an address read; the program's side. · Chapter 7: an address read; the specification's side. · Chapter 7: an address in its one form; both sides; addresses held against each other. · Chapter 7: an address read off its place in the index, on lists. · A method, a status: what they may be. · The walks over chapter 2: small functions of the calendar. · The walks over chapter 2: CivilOk. · The walks over chapter 2: impl's SecondsOf, CivilOf, Weekday. · Chapter 9 on lists: a line, what is one, its text; which of two is ahead. No Go in sight. · Chapter 9 on lists: an index; one merged with another, a line put in, the lines of a key, the nearest. No Go in sight.
-/
import Derived.Test.YtenjbgpndkodmacGreatDoorJ6
import Derived.Test.YtenjbgpndkodmacGreatDoorJ3
import Derived.Test.YtenjbgpndkodmacGreatDoorJ0
import Derived.Test.YtenjbgpndkodmacGreatDoorProg
import Derived.Test.YtenjbgpndkodmacGreatDoorJ1
import Derived.Deep.QuietTactic
import Derived.BigQuiet
namespace Go.Proofs.YtenjbgpndkodmacGreatDoor
set_option linter.unusedVariables false
set_option linter.unusedSimpArgs false
open Go.RowKit
theorem Blk.set5U {w : World} {g : Nat} {a b c d e : Value} {t : TypeId} (H : Blk w g #[a, b, c, d, e] t) (x0 x1 x2 x3 x4 : Value) : Blk (((((w.setCell ⟨g, 0, none⟩ x0).setCell ⟨g, 1, none⟩ x1).setCell ⟨g, 2, none⟩ x2).setCell ⟨g, 3, none⟩ x3).setCell ⟨g, 4, none⟩ x4) g #[x0, x1, x2, x3, x4] t := by
  have h0 : Blk (w.setCell ⟨g, 0, none⟩ x0) g #[x0, b, c, d, e] t := H.set 0 x0
  have h1 : Blk ((w.setCell ⟨g, 0, none⟩ x0).setCell ⟨g, 1, none⟩ x1) g #[x0, x1, c, d, e] t := h0.set 1 x1
  have h2 : Blk (((w.setCell ⟨g, 0, none⟩ x0).setCell ⟨g, 1, none⟩ x1).setCell ⟨g, 2, none⟩ x2) g #[x0, x1, x2, d, e] t := h1.set 2 x2
  have h3 : Blk ((((w.setCell ⟨g, 0, none⟩ x0).setCell ⟨g, 1, none⟩ x1).setCell ⟨g, 2, none⟩ x2).setCell ⟨g, 3, none⟩ x3) g #[x0, x1, x2, x3, e] t := h2.set 3 x3
  exact h3.set 4 x4
theorem Blk.f5U {w : World} {g : Nat} {c : Array Value} {t : TypeId} (H : Blk w g c t) : w.frozen? ⟨g, 0, none⟩ = false ∧ w.frozen? ⟨g, 1, none⟩ = false ∧ w.frozen? ⟨g, 2, none⟩ = false ∧ w.frozen? ⟨g, 3, none⟩ = false ∧ w.frozen? ⟨g, 4, none⟩ = false := ⟨H.free 0, H.free 1, H.free 2, H.free 3, H.free 4⟩
theorem below_set5 {B g : Nat} {w0 w : World} (H : Below B w0 w) (hg : B ≤ g) (x0 x1 x2 x3 x4 : Value) : Below B w0 (((((w.setCell ⟨g, 0, none⟩ x0).setCell ⟨g, 1, none⟩ x1).setCell ⟨g, 2, none⟩ x2).setCell ⟨g, 3, none⟩ x3).setCell ⟨g, 4, none⟩ x4) := ((((H.setCell (p := ⟨g, 0, none⟩) hg x0).setCell (p := ⟨g, 1, none⟩) hg x1).setCell (p := ⟨g, 2, none⟩) hg x2).setCell (p := ⟨g, 3, none⟩) hg x3).setCell (p := ⟨g, 4, none⟩) hg x4
set_option maxRecDepth 100000 in
set_option maxHeartbeats 4000000 in
theorem looseUrl_any (a e : ByteArray) (w : World) (ha : a.size ≤ 1048576) (he : e.size ≤ 1048576) :
    Calls Tryz.prog 100 #[.string a, .string e] w fun r w' => r = .returned (.agg #[.string (uptS 58 a), .int .i64 (if hasS 58 a = true then rdecN (bhS 58 a) else 80), .string (uptS 63 e), .string (bhS 63 e), .bool (hasS 63 e)]) ∧ Below w.heap.size w w' := by
  have HB := hideB2 (below_a1 w (.cells #[.string ⟨#[]⟩, .int .i64 0, .string ⟨#[]⟩, .string ⟨#[]⟩, .bool false] 84))
  have A0 := hideB2 (Blk.new w #[.string ⟨#[]⟩, .int .i64 0, .string ⟨#[]⟩, .string ⟨#[]⟩, .bool false] 84)
  have H1 := hideB2 (fun W => CutS_any a 58 W (by unfold maxLen; omega))
  have H2 := hideB2 (fun W => CutS_any e 63 W (by unfold maxLen; omega))
  have hz := bhS_size 58 a
  have HD := hideB2 (fun W => ReadDec_any (bhS 58 a) W (by unfold maxLen; omega))
  clear hz
  generalize rdecN (bhS 58 a) = n at *
  generalize rdecOk (bhS 58 a) = okn at *
  generalize bhS 58 a = d at *
  generalize uptS 58 a = h at *
  generalize uptS 63 e = p at *
  generalize bhS 63 e = q at *
  generalize hasS 63 e = b at *
  generalize hasS 58 a = told at *
  cases told
  · rw [if_neg (by simp)]
    go_enter Tryz.func100, Tryz.ntmps100
    go_wp2_with fail
    refine (H1.out _).mono ?_
    rintro e1 w1 ⟨rfl, hb1⟩
    have B1 := Blk.new w1 #[.string h, .int .i64 80, .string ⟨#[]⟩, .string ⟨#[]⟩, .bool false] 84
    have A1 := (A0.out.later hb1).alloc (.cells #[.string h, .int .i64 80, .string ⟨#[]⟩, .string ⟨#[]⟩, .bool false] 84)
    have hb1' := below_then (below_then HB.out hb1) (below_a1 w1 (.cells #[.string h, .int .i64 80, .string ⟨#[]⟩, .string ⟨#[]⟩, .bool false] 84))
    have hlt := (A0.out.later hb1).lt
    clear hb1 HB A0
    go_wp2_with fail
    refine (H2.out _).mono ?_
    rintro e2 w2 ⟨rfl, hb2⟩
    have B2 := B1.later hb2
    have A2 := A1.later hb2
    have HB2 := hideB2 (below_then hb1' hb2)
    obtain ⟨p0, p1, p2, p3, p4⟩ := B2.u5
    obtain ⟨f0, f1, f2, f3, f4⟩ := B2.f5U
    obtain ⟨a0, a1, a2, a3, a4⟩ := A2.u5
    obtain ⟨g0, g1, g2, g3, g4⟩ := A2.f5U
    have HA2 := hideB2 A2
    clear B1 B2 A1 A2 hb1' hb2 H1 H2
    generalize w1.heap.size = G at *
    have hne : G ≠ w.heap.size := by omega
    have hne' : w.heap.size ≠ G := by omega
    go_wp2
    refine bodyPost_ret (results_cellS rfl _ _ _ rfl ((((HA2.out.other hne 2 _).other hne 3 _).other hne 4 _).set5U _ _ _ _ _) Tryz.underlying84 Tryz.infoUrl) rfl ⟨rfl, ?_⟩
    exact below_set5 (((HB2.out.setCell (p := ⟨G, 2, none⟩) (by show w.heap.size ≤ G; omega) _).setCell (p := ⟨G, 3, none⟩) (by show w.heap.size ≤ G; omega) _).setCell (p := ⟨G, 4, none⟩) (by show w.heap.size ≤ G; omega) _) (Nat.le_refl _) _ _ _ _ _
  · rw [if_pos rfl]
    go_enter Tryz.func100, Tryz.ntmps100
    go_wp2_with fail
    refine (H1.out _).mono ?_
    rintro e1 w1 ⟨rfl, hb1⟩
    have B1 := Blk.new w1 #[.string h, .int .i64 n, .string ⟨#[]⟩, .string ⟨#[]⟩, .bool false] 84
    have A1 := (A0.out.later hb1).alloc (.cells #[.string h, .int .i64 n, .string ⟨#[]⟩, .string ⟨#[]⟩, .bool false] 84)
    have hb1' := below_then (below_then HB.out hb1) (below_a1 w1 (.cells #[.string h, .int .i64 n, .string ⟨#[]⟩, .string ⟨#[]⟩, .bool false] 84))
    have hlt := (A0.out.later hb1).lt
    clear hb1 HB A0
    go_wp2_with (first | (go_at_call 92; refine (HD.out _).mono ?_; rintro e3 w3 ⟨rfl, rfl⟩) | fail)
    refine (H2.out _).mono ?_
    rintro e2 w2 ⟨rfl, hb2⟩
    have B2 := B1.later hb2
    have A2 := A1.later hb2
    have HB2 := hideB2 (below_then hb1' hb2)
    obtain ⟨p0, p1, p2, p3, p4⟩ := B2.u5
    obtain ⟨f0, f1, f2, f3, f4⟩ := B2.f5U
    obtain ⟨a0, a1, a2, a3, a4⟩ := A2.u5
    obtain ⟨g0, g1, g2, g3, g4⟩ := A2.f5U
    have HA2 := hideB2 A2
    clear B1 B2 A1 A2 hb1' hb2 H1 H2
    have hne : w1.heap.size ≠ w.heap.size := by omega
    have hne' : w.heap.size ≠ w1.heap.size := by omega
    generalize w1.heap.size = G at *
    go_wp2
    refine bodyPost_ret (results_cellS rfl _ _ _ rfl ((((HA2.out.other hne 2 _).other hne 3 _).other hne 4 _).set5U _ _ _ _ _) Tryz.underlying84 Tryz.infoUrl) rfl ⟨rfl, ?_⟩
    exact below_set5 (((HB2.out.setCell (p := ⟨G, 2, none⟩) (by show w.heap.size ≤ G; omega) _).setCell (p := ⟨G, 3, none⟩) (by show w.heap.size ≤ G; omega) _).setCell (p := ⟨G, 4, none⟩) (by show w.heap.size ≤ G; omega) _) (Nat.le_refl _) _ _ _ _ _
theorem clnB_size (p : ByteArray) : (clnB p).size ≤ 202 := by
  cases hp : pthQ p
  · rw [clnB_no hp]; show (0 : Nat) ≤ _; omega
  · rw [clnB_yes hp]
    have hz : p.size ≤ 200 := by
      unfold pthQ at hp
      rw [Bool.and_eq_true, Bool.and_eq_true] at hp
      exact (targQ_iff.1 hp.1.1).2.1
    have h1 := evB_size (p.extract 1 p.size)
    have h2 : (p.extract 1 p.size).size ≤ p.size := by rw [ByteArray.size_extract]; omega
    generalize evB (p.extract 1 p.size) = y at *
    have h3 := splS_len 47 y
    have h4 := splS_sum 47 y.size y (Nat.le_refl _)
    generalize splS 47 y = L at *
    have h5 := keptL_le L
    generalize keptL L = K at *
    unfold clnL
    split
    · show (1 : Nat) ≤ _; omega
    · show (tailS 47 K).toArray.size ≤ _
      rw [List.size_toArray, tailS_len]
      omega
theorem ext7 {s : ByteArray} (h : 7 ≤ s.size) : (foldB s).extract 0 7 = foldB (s.extract 0 7) := by
  apply bytes_ext
  rw [Lib.extract_data]
  unfold foldB foldL
  rw [Lib.extract_data]
  simp [List.map_take]
set_option maxHeartbeats 1000000 in
theorem HasPre7_any (s : ByteArray) (w : World) (hs : s.size ≤ maxLen) :
    Calls Tryz.prog 160 #[.string (foldB s), .string ⟨#[104, 116, 116, 112, 58, 47, 47]⟩] w fun e w' => e = .returned (.bool (pre7 s)) ∧ w' = w := by
  unfold maxLen at hs
  have hz := foldB_size s
  by_cases h7 : 7 ≤ s.size
  · have e1 : pre7 s = ((foldB s).extract 0 7).toList.beq [104, 116, 116, 112, 58, 47, 47] := by
      unfold pre7
      rw [decide_eq_true h7, Bool.true_and, ext7 h7]
      unfold eqB
      rw [ByteArray.toList_eq schB]
      rfl
    have h1 : (7 : Int) ≤ ((foldB s).size : Int) := by omega
    have h2 : (((foldB s).extract 0 7).toList == [104, 116, 116, 112, 58, 47, 47]) = pre7 s := e1.symm
    clear e1 h7
    generalize foldB s = x at *
    generalize pre7 s = q at *
    go_enter Tryz.func160, Tryz.ntmps160
    go_wp2
    go_ret
    exact ⟨by first | rfl | (rw [h2]), rfl⟩
  · have e1 : pre7 s = false := by unfold pre7; rw [decide_eq_false h7]; rfl
    have h1 : ¬ (7 : Int) ≤ ((foldB s).size : Int) := by omega
    rw [e1]
    clear e1 h7
    generalize foldB s = x at *
    go_enter Tryz.func160, Tryz.ntmps160
    go_wp2
    go_ret
    exact ⟨rfl, rfl⟩
theorem rdA_no {s : ByteArray} (h : rdA s = false) : rdO s = false ∧ rdU s = ur0 := by
  have h1 : rdO s = false := by unfold rdO; rw [h]; rfl
  exact ⟨h1, by unfold rdU; rw [h1]; rfl⟩
theorem rdA_yes {s : ByteArray} (h : rdA s = true) : rdO s = urQ (rdK (s.extract 7 s.size)) ∧ rdU s = if urQ (rdK (s.extract 7 s.size)) = true then rdK (s.extract 7 s.size) else ur0 := by
  have h1 : rdO s = urQ (rdK (s.extract 7 s.size)) := by unfold rdO; rw [h, Bool.true_and]
  exact ⟨h1, by unfold rdU; rw [h1]⟩
theorem vis_at {s : ByteArray} (h : targQ s = true) : ∀ j, j < s.size → (at8 s j).toNat < 128 := by
  intro j hj
  have hl : j < s.data.toList.length := by rw [len_data]; exact hj
  have e : s.data.toList[j]? = some (at8 s j) := by
    unfold at8
    rw [List.getD, List.getElem?_eq_getElem hl, Option.getD_some]
  exact vis_ascii h j _ e
end Go.Proofs.YtenjbgpndkodmacGreatDoor
namespace Go.Proofs.YtenjbgpndkodmacGreatDoor
set_option linter.unusedVariables false
set_option linter.unusedSimpArgs false
open Go.RowKit
theorem cln_root : clnB rootB = rootB := by
  have h1 : pthQ rootB = true := by decide
  have h2 : evB (rootB.extract 1 rootB.size) = ⟨#[]⟩ := evB_nil (by rw [ByteArray.size_extract]; decide)
  have h3 : splS 47 ⟨#[]⟩ = [⟨#[]⟩] := (splS_none (c := 47) (s := ⟨#[]⟩) (idxS_miss (fun j hj => absurd hj (Nat.not_lt_zero j)))).2
  have h4 : eqB ⟨#[]⟩ dd = false := by unfold eqB; rw [ByteArray.toList_eq, ByteArray.toList_eq]; rfl
  have h5 : eqB ⟨#[]⟩ d1 = false := by unfold eqB; rw [ByteArray.toList_eq, ByteArray.toList_eq]; rfl
  rw [clnB_yes h1, h2, h3]
  have h6 : keepL [⟨#[]⟩] = [⟨#[]⟩] := by
    show keepS [] ⟨#[]⟩ = _
    unfold keepS; rw [h4, h5]; rfl
  have h7 : lastDot [⟨#[]⟩] = false := by
    show dotQ ⟨#[]⟩ = false
    unfold dotQ; rw [h4, h5]; rfl
  unfold keptL
  rw [h7, h6]
  rfl
theorem rdK_spec (r : ByteArray) : rdK r = ⟨foldB (uptS 58 (auU r)), if (auU r).size < (uptS 63 r).size then clnB ((uptS 63 r).extract (auU r).size (uptS 63 r).size) else rootB, if (uptS 63 r).size < r.size then r.extract ((uptS 63 r).size + 1) r.size else ⟨#[]⟩, if (uptS 58 (auU r)).size < (auU r).size then rdecN ((auU r).extract ((uptS 58 (auU r)).size + 1) (auU r).size) else 80, decide ((uptS 63 r).size < r.size)⟩ := by
  obtain ⟨k1, k2, k3, k4⟩ := reU_cut r
  obtain ⟨c1, c2⟩ := cut_len 63 r
  obtain ⟨d1, d2⟩ := cut_len 58 (auU r)
  unfold rdK
  rw [k1, c1, c2, d1, d2]
  have hz : ((uptS 63 r).extract (auU r).size (uptS 63 r).size).size = (uptS 63 r).size - (auU r).size := by rw [ByteArray.size_extract]; omega
  have e1 : clnB (if ((uptS 63 r).extract (auU r).size (uptS 63 r).size).size = 0 then rootB else (uptS 63 r).extract (auU r).size (uptS 63 r).size) = if (auU r).size < (uptS 63 r).size then clnB ((uptS 63 r).extract (auU r).size (uptS 63 r).size) else rootB := by
    by_cases h : (auU r).size < (uptS 63 r).size
    · rw [if_pos h, if_neg (show ¬ ((uptS 63 r).extract (auU r).size (uptS 63 r).size).size = 0 by omega)]
    · rw [if_neg h, if_pos (show ((uptS 63 r).extract (auU r).size (uptS 63 r).size).size = 0 by omega), cln_root]
  have e2 : (if decide ((uptS 58 (auU r)).size < (auU r).size) = true then rdecN (if (uptS 58 (auU r)).size < (auU r).size then (auU r).extract ((uptS 58 (auU r)).size + 1) (auU r).size else ⟨#[]⟩) else 80) = if (uptS 58 (auU r)).size < (auU r).size then rdecN ((auU r).extract ((uptS 58 (auU r)).size + 1) (auU r).size) else 80 := by
    by_cases h : (uptS 58 (auU r)).size < (auU r).size
    · rw [decide_eq_true h, if_pos rfl, if_pos h, if_pos h]
    · rw [decide_eq_false h, if_neg (by simp), if_neg h]
  rw [e1, e2]
theorem rdO_short {s : ByteArray} (h : s.size < 8) : rdO s = false := by
  unfold rdO
  cases hp : rdA s
  · rfl
  · have hr : s.extract 7 s.size = ⟨#[]⟩ := size_nil (by rw [ByteArray.size_extract]; omega)
    rw [hr, Bool.true_and]
    have hau : auU ⟨#[]⟩ = ⟨#[]⟩ := auU_none (fun j hj => absurd hj (Nat.not_lt_zero j))
    have hho : uptS 58 ⟨#[]⟩ = ⟨#[]⟩ := uptS_none (idxS_miss (fun j hj => absurd hj (Nat.not_lt_zero j)))
    unfold urQ urlQ
    have e : (rdK ⟨#[]⟩).ho = ⟨#[]⟩ := by
      show foldB (uptS 58 (auU ⟨#[]⟩)) = _
      rw [hau, hho]; rfl
    rw [e, hostQ_empty rfl]
    rfl
theorem rdU_no {s : ByteArray} (h : rdO s = false) : rdU s = ur0 := by unfold rdU; rw [h]; rfl
theorem urQ_port {u : Ur} (h : u.po = 0) : urQ u = false := by
  unfold urQ urlQ withinB
  rw [h]
  simp
theorem eqB_upt35 (s : ByteArray) : ((uptS 35 s).toList == s.toList) = decide (idxS 35 s < 0) := eqB_upt s
theorem sch_eq {x : ByteArray} : (x.toList == [104, 116, 116, 112, 58, 47, 47]) = eqB x schB := by
  unfold eqB; rw [ByteArray.toList_eq schB]; rfl
end Go.Proofs.YtenjbgpndkodmacGreatDoor
namespace Go.Proofs.YtenjbgpndkodmacGreatDoor
set_option linter.unusedVariables false
set_option linter.unusedSimpArgs false
open Go.RowKit
theorem rdK_ho (r : ByteArray) : (rdK r).ho = foldB (uptS 58 (auU r)) := by simp only [rdK]
theorem rdK_pa (r : ByteArray) : (rdK r).pa = clnB (if (uptS 63 (reU r)).size = 0 then rootB else uptS 63 (reU r)) := by simp only [rdK]
theorem rdK_qu (r : ByteArray) : (rdK r).qu = bhS 63 r := by simp only [rdK]
theorem rdU_sizes (s : ByteArray) : (rdU s).ho.size ≤ s.size ∧ (rdU s).pa.size ≤ 202 ∧ (rdU s).qu.size ≤ s.size := by
  have h1 := uptS_size 58 (auU (s.extract 7 s.size))
  have h2 := auU_size (s.extract 7 s.size)
  have h3 : (s.extract 7 s.size).size ≤ s.size := by rw [ByteArray.size_extract]; omega
  have h4 := bhS_size 63 (s.extract 7 s.size)
  have h5 := clnB_size (if (uptS 63 (reU (s.extract 7 s.size))).size = 0 then rootB else uptS 63 (reU (s.extract 7 s.size)))
  rw [← rdK_pa] at h5
  rw [← rdK_qu] at h4
  rw [← foldB_size, ← rdK_ho] at h1
  unfold rdU
  generalize rdK (s.extract 7 s.size) = K at *
  by_cases h : rdO s = true
  · rw [if_pos h]
    exact ⟨by omega, h5, by omega⟩
  · rw [if_neg h]
    have e : ur0.ho.size = 0 ∧ ur0.pa.size = 0 ∧ ur0.qu.size = 0 := ⟨rfl, rfl, rfl⟩
    omega
theorem ret_sbU {s t : ByteArray} {a b : Bool} (h : t = s) (h' : b = a) : Ending.returned (.tuple #[.string s, .bool a]) = .returned (.tuple #[.string t, .bool b]) := by rw [h, h']
def canB (s : ByteArray) : ByteArray := textB (rdU s).ho (rdU s).pa (rdU s).qu (rdU s).po (rdU s).hq
theorem urQ_zero : urQ ur0 = false := urQ_port rfl
theorem canB_no {s : ByteArray} (h : rdO s = false) : canB s = ⟨#[]⟩ := by
  unfold canB
  rw [rdU_no h]
  unfold textB
  rw [if_neg]
  have := urQ_zero
  unfold urQ at this
  rw [this]; simp
end Go.Proofs.YtenjbgpndkodmacGreatDoor
namespace Go.Proofs.YtenjbgpndkodmacGreatDoor
set_option linter.unusedVariables false
set_option linter.unusedSimpArgs false
open Go.RowKit
theorem at8_app1 {a b : ByteArray} {j : Nat} (h : j < a.size) : at8 (a ++ b) j = at8 a j := by
  have hl : j < a.data.toList.length := by rw [len_data]; exact h
  unfold at8
  rw [Go.Joins.data_append, List.getD, List.getD, List.getElem?_append_left hl]
theorem at8_app2 {a b : ByteArray} {j : Nat} : at8 (a ++ b) (a.size + j) = at8 b j := by
  unfold at8
  rw [Go.Joins.data_append, List.getD, List.getD, List.getElem?_append_right (by rw [len_data]; omega), len_data, Nat.add_sub_cancel_left]
theorem nob_iff {c : UInt8} {s : ByteArray} : allB (fun b => b != c) s = true ↔ idxS c s = -1 := by
  constructor
  · intro h
    refine idxS_miss (fun j hj he => ?_)
    have := allB_no (p := fun b => b != c) hj (by show (at8 s j != c) = false; rw [he]; simp)
    rw [h] at this; cases this
  · intro h
    refine allB_yes (fun j hj => ?_)
    have := idxS_none h j hj
    show (at8 s j != c) = true
    rw [bne_iff_ne]; exact this
theorem idxS_mid {c : UInt8} {a b : ByteArray} (h : idxS c a = -1) : idxS c ((a ++ (⟨#[c]⟩ : ByteArray)) ++ b) = (a.size : Int) := by
  have e1 : (⟨#[c]⟩ : ByteArray).size = 1 := rfl
  refine idxS_of ?_ ?_ ?_
  · rw [ByteArray.size_append, ByteArray.size_append]; omega
  · rw [bytes_assoc]
    have := at8_app2 (a := a) (b := (⟨#[c]⟩ : ByteArray) ++ b) (j := 0)
    rw [Nat.add_zero] at this
    rw [this, at8_app1 (by rw [e1]; omega)]
    rfl
  · intro j hj
    rw [bytes_assoc, at8_app1 hj]
    exact idxS_none h j hj
theorem ext_app1 (a b : ByteArray) : (a ++ b).extract 0 a.size = a := by
  apply bytes_ext
  rw [Lib.extract_data, Go.Joins.data_append, List.drop_zero, Nat.sub_zero, ← len_data a]
  exact List.take_left
theorem ext_app2 (a b : ByteArray) : (a ++ b).extract a.size (a ++ b).size = b := by
  apply bytes_ext
  rw [Lib.extract_data, Go.Joins.data_append, ← len_data a, List.drop_left]
  exact List.take_of_length_le (by rw [len_data, ByteArray.size_append, len_data]; omega)
theorem upt_mid {c : UInt8} {a b : ByteArray} (h : idxS c a = -1) : uptS c ((a ++ (⟨#[c]⟩ : ByteArray)) ++ b) = a := by
  rw [uptS_some (idxS_mid h), bytes_assoc]
  exact ext_app1 _ _
theorem bh_mid {c : UInt8} {a b : ByteArray} (h : idxS c a = -1) : bhS c ((a ++ (⟨#[c]⟩ : ByteArray)) ++ b) = b := by
  rw [(cut_some (idxS_mid h)).2.1]
  have e : a.size + 1 = (a ++ (⟨#[c]⟩ : ByteArray)).size := by rw [ByteArray.size_append]; rfl
  rw [e]
  exact ext_app2 _ _
theorem joinS_one (c : UInt8) (x : ByteArray) : joinS c [x] = x := by
  apply bytes_ext
  have h := joinS_tail c x []
  rw [tailS_cons, tailS_nil, List.append_nil] at h
  injection h
theorem joinS_two (c : UInt8) (x y : ByteArray) (r : List ByteArray) : joinS c (x :: y :: r) = (x ++ (⟨#[c]⟩ : ByteArray)) ++ joinS c (y :: r) := by
  apply bytes_ext
  have h1 := joinS_tail c x (y :: r)
  have h2 := joinS_tail c y r
  rw [tailS_cons, ← h2] at h1
  injection h1 with _ h1
  rw [h1, Go.Joins.data_append, Go.Joins.data_append]
  simp
theorem split_join (c : UInt8) : ∀ (l : List ByteArray), l ≠ [] → (∀ x ∈ l, idxS c x = -1) → splS c (joinS c l) = l
  | [], h, _ => absurd rfl h
  | [x], _, hn => by rw [joinS_one]; exact (splS_none (hn x List.mem_cons_self)).2
  | x :: y :: r, _, hn => by
    have hx := hn x List.mem_cons_self
    have ih := split_join c (y :: r) (by simp) (fun z hz => hn z (List.mem_cons_of_mem _ hz))
    rw [joinS_two, (splS_some (idxS_mid hx)).2]
    have e1 := upt_mid (b := joinS c (y :: r)) hx
    rw [uptS_some (idxS_mid hx)] at e1
    have e2 := bh_mid (b := joinS c (y :: r)) hx
    rw [(cut_some (idxS_mid hx)).2.1] at e2
    rw [e1, e2, ih]
theorem joinS_all {q : UInt8 → Bool} {d : UInt8} (hd : q d = true) : ∀ (l : List ByteArray), (∀ x ∈ l, allB q x = true) → allB q (joinS d l) = true
  | [], _ => rfl
  | [x], h => by rw [joinS_one]; exact h x List.mem_cons_self
  | x :: y :: r, h => by
    rw [joinS_two, all_app, all_app, h x List.mem_cons_self, joinS_all hd (y :: r) (fun z hz => h z (List.mem_cons_of_mem _ hz))]
    show (true && allB q ⟨#[d]⟩ && true) = true
    rw [show allB q ⟨#[d]⟩ = q d by unfold allB; simp, hd]
    rfl
theorem joinS_size_eq (c : UInt8) (l : List ByteArray) (h : l ≠ []) : (joinS c l).size + 1 = l.length + sumS l := by
  cases l with
  | nil => exact absurd rfl h
  | cons x r =>
    have h1 := congrArg List.length (joinS_tail c x r)
    rw [tailS_len, List.length_cons, len_data] at h1
    exact h1
theorem turnB_size_eq (h : ByteArray) (c d : UInt8) : (turnB h c d).size = h.size := by
  have h1 := joinS_size_eq d (splS c h).reverse (by simpa using splS_ne c h)
  have h2 := splS_len c h
  have h3 := splS_sum c h.size h (Nat.le_refl _)
  rw [List.length_reverse, sumS_rev] at h1
  unfold turnB
  omega
/-- Of a host: each piece is of its own signs, none is empty. -/
theorem host_pieces {h : ByteArray} (hq : hostQ h = true) : ∀ x ∈ splS 46 h, allB pc8 x = true ∧ x.size ≠ 0 := by
  intro x hx
  unfold hostQ at hq
  rw [Bool.and_eq_true, Bool.and_eq_true] at hq
  have h1 := hq.1.2
  rw [hst_pieces, List.all_eq_true] at h1
  refine ⟨h1 x hx, fun h0 => ?_⟩
  have h2 : (splS 46 h).any (fun x => eqB x ⟨#[]⟩) = true := List.any_eq_true.2 ⟨x, hx, by rw [size_nil h0]; exact eqB_self _⟩
  rw [h2] at hq
  cases hq.2
def tn8 (b : UInt8) : Bool := pc8 b || b == 44
theorem turn_all {h : ByteArray} (hq : hostQ h = true) : allB tn8 (turnB h 46 44) = true := by
  refine joinS_all (q := tn8) (d := 44) rfl _ (fun x hx => ?_)
  have := (host_pieces hq x (List.mem_reverse.1 hx)).1
  exact allB_mono this (fun b hb => by unfold tn8; rw [hb]; rfl)
theorem pc_ne {b c : UInt8} (hc : pc8 c = false) (h : pc8 b = true) : b ≠ c := by
  intro e; subst e; rw [h] at hc; cases hc
theorem tn_no {h : ByteArray} (hq : hostQ h = true) {c : UInt8} (hc : pc8 c = false) (h44 : c ≠ 44) : idxS c (turnB h 46 44) = -1 := by
  refine nob_iff.1 (allB_mono (turn_all hq) (fun b hb => ?_))
  rw [bne_iff_ne]
  intro e
  subst e
  unfold tn8 at hb
  rw [hc, Bool.false_or, beq_iff_eq] at hb
  exact h44 hb
theorem turn_split {h : ByteArray} (hq : hostQ h = true) : splS 44 (turnB h 46 44) = (splS 46 h).reverse := by
  refine split_join 44 _ (by simpa using splS_ne 46 h) (fun x hx => ?_)
  have := (host_pieces hq x (List.mem_reverse.1 hx)).1
  exact nob_iff.1 (allB_mono this (fun b hb => by rw [bne_iff_ne]; exact pc_ne (by decide) hb))
theorem port_no {n : Int} {c : UInt8} (h1 : (58 : UInt8) ≠ c) (hc : digP (c.toNat : Int) = false) : idxS c (portB n) = -1 := by
  refine nob_iff.1 ?_
  unfold portB
  split
  · rfl
  · rw [all_app]
    have e1 : allB (fun b => b != c) ⟨#[58]⟩ = true := by
      unfold allB
      simp [h1]
    rw [e1, Bool.true_and]
    unfold decT
    split
    · unfold allB decB
      rw [List.all_eq_true]
      intro b hb
      have hd := allDig_dec n.toNat
      unfold allDig at hd
      rw [List.all_eq_true] at hd
      have h2 : dig8 b = true := hd b hb
      show (b != c) = true
      rw [bne_iff_ne]
      intro e
      subst e
      unfold dig8 at h2
      rw [hc] at h2; cases h2
    · rfl
/-- The place of an address. -/
def suU (u : Ur) : ByteArray := surtB u.ho u.pa u.qu u.po u.hq
theorem suU_form {u : Ur} (h : urQ u = true) : suU u = ((turnB u.ho 46 44 ++ portB u.po) ++ (⟨#[41]⟩ : ByteArray)) ++ (u.pa ++ qryB u.qu u.hq) := by
  unfold suU surtB
  rw [if_pos (show urlQ u.ho u.pa u.qu u.po u.hq = true from h), bytes_assoc]
theorem suU_no {u : Ur} (h : urQ u = false) : suU u = ⟨#[]⟩ := by
  unfold suU surtB
  rw [if_neg (show ¬ urlQ u.ho u.pa u.qu u.po u.hq = true from by unfold urQ at h; rw [h]; simp)]
theorem urQ_host {u : Ur} (h : urQ u = true) : hostQ u.ho = true := by
  unfold urQ urlQ at h
  simp only [Bool.and_eq_true] at h
  exact h.1.1.1.1.1
theorem suU_parts {u : Ur} (h : urQ u = true) : hasS 41 (suU u) = true ∧ uptS 58 (uptS 41 (suU u)) = turnB u.ho 46 44 ∧ (suU u).size ≤ 200 ∧ suU u ≠ ⟨#[]⟩ := by
  have hh := urQ_host h
  have h1 : idxS 41 (turnB u.ho 46 44 ++ portB u.po) = -1 := by
    refine nob_iff.1 ?_
    rw [all_app, nob_iff.2 (tn_no hh (by decide) (by decide)), nob_iff.2 (port_no (by decide) (by decide))]
    rfl
  have hf := suU_form h
  have hm := idxS_mid (b := u.pa ++ qryB u.qu u.hq) h1
  refine ⟨?_, ?_, ?_, ?_⟩
  · rw [hf, (cut_some hm).2.2]
  · rw [hf, upt_mid h1]
    unfold portB
    have h58 := tn_no hh (c := 58) (by decide) (by decide)
    split
    · rw [bytes_nil_right]; exact uptS_none h58
    · rw [← bytes_assoc]; exact upt_mid h58
  · have h2 : targQ (utxt u.ho u.pa u.qu u.po u.hq) = true := by
      unfold urQ urlQ at h
      simp only [Bool.and_eq_true] at h
      exact h.2
    have h3 := (targQ_iff.1 h2).2.1
    rw [utxt_size] at h3
    rw [hf, ByteArray.size_append, ByteArray.size_append, ByteArray.size_append, ByteArray.size_append, turnB_size_eq]
    have e1 : (⟨#[41]⟩ : ByteArray).size = 1 := rfl
    omega
  · intro he
    have := congrArg ByteArray.size he
    rw [hf, ByteArray.size_append, ByteArray.size_append] at this
    have e1 : (⟨#[41]⟩ : ByteArray).size = 1 := rfl
    have e2 : (⟨#[]⟩ : ByteArray).size = 0 := rfl
    omega
/-- The parts of a place, the host turned back. -/
def usT (t s : ByteArray) : Ur := ⟨t, uptS 63 (bhS 41 s), bhS 63 (bhS 41 s), if hasS 58 (uptS 41 s) = true then rdecN (bhS 58 (uptS 41 s)) else 80, hasS 63 (bhS 41 s)⟩
def hoS (s : ByteArray) : ByteArray := uptS 58 (uptS 41 s)
def usK (s : ByteArray) : Ur := usT (turnB (hoS s) 44 46) s
def usO (s : ByteArray) : Bool := urQ (usK s) && eqB (suU (usK s)) s
def usU (s : ByteArray) : Ur := if usO s = true then usK s else ur0
/-- As the specification looks at it. -/
def ssK (s : ByteArray) : Ur := usT (turnS (hoS s) 44 46) s
theorem turn_same {h : ByteArray} (hx : ∀ x r, (splS 44 h).reverse = x :: r → x.size ≠ 0) : turnS h 44 46 = turnB h 44 46 := by
  unfold turnS turnB
  cases hr : (splS 44 h).reverse with
  | nil => rfl
  | cons x r => exact trnF_join 46 x r (hx x r hr)
theorem turn_empty {h : ByteArray} {x : ByteArray} {r : List ByteArray} (hr : (splS 44 h).reverse = x :: r) (h0 : x.size = 0) : hostQ (turnB h 44 46) = false := by
  have hx := size_nil h0
  subst hx
  have hany : (splS 46 (turnB h 44 46)).any (fun x => eqB x ⟨#[]⟩) = true := by
    unfold turnB
    rw [hr]
    cases r with
    | nil => rw [joinS_one, (splS_none (c := 46) (s := ⟨#[]⟩) (idxS_miss (fun j hj => absurd hj (Nat.not_lt_zero j)))).2]; exact List.any_eq_true.2 ⟨⟨#[]⟩, List.mem_cons_self, eqB_self _⟩
    | cons y r =>
      have hn : idxS 46 (⟨#[]⟩ : ByteArray) = -1 := idxS_miss (fun j hj => absurd hj (Nat.not_lt_zero j))
      rw [joinS_two, (splS_some (idxS_mid hn)).2]
      refine List.any_eq_true.2 ⟨_, List.mem_cons_self, ?_⟩
      rw [size_nil (x := ByteArray.extract _ 0 _) (by rw [ByteArray.size_extract]; show min 0 _ - 0 = 0; omega)]
      exact eqB_self _
  unfold hostQ
  rw [hany]
  simp
theorem usK_ho (s : ByteArray) : (usK s).ho = turnB (hoS s) 44 46 := by simp only [usK, usT]
theorem us_same (s : ByteArray) : (s.size ≤ 200 ∧ hasS 41 s = true ∧ suU (ssK s) = s ∧ s ≠ ⟨#[]⟩ ↔ usO s = true) ∧ (usO s = true → ssK s = usK s) := by
  have back : usO s = true → ssK s = usK s := by
    intro h
    unfold usO at h
    rw [Bool.and_eq_true] at h
    have hh := urQ_host h.1
    rw [usK_ho] at hh
    unfold ssK usK
    rw [turn_same (fun x r hr h0 => by rw [turn_empty hr h0] at hh; cases hh)]
  refine ⟨⟨?_, ?_⟩, back⟩
  · rintro ⟨h1, h2, h3, h4⟩
    have hq : urQ (ssK s) = true := by
      cases hq : urQ (ssK s) with
      | true => rfl
      | false => rw [suU_no hq] at h3; exact absurd h3.symm h4
    obtain ⟨_, g2, _, _⟩ := suU_parts hq
    rw [h3] at g2
    have hh := urQ_host hq
    have hts : turnS (hoS s) 44 46 = turnB (hoS s) 44 46 := by
      refine turn_same (fun x r hr h0 => ?_)
      have e : hoS s = turnB (ssK s).ho 46 44 := g2
      rw [e, turn_split hh, List.reverse_reverse] at hr
      exact (host_pieces hh x (by rw [hr]; exact List.mem_cons_self)).2 h0
    have hk : ssK s = usK s := by unfold ssK usK; rw [hts]
    unfold usO
    rw [← hk, hq, h3, eqB_self]; rfl
  · intro h
    have hk := back h
    unfold usO at h
    rw [Bool.and_eq_true] at h
    obtain ⟨g1, _, g3, g4⟩ := suU_parts h.1
    have e := eqB_iff.1 h.2
    rw [e] at g1 g3 g4
    exact ⟨g3, g1, by rw [hk]; exact e, g4⟩
end Go.Proofs.YtenjbgpndkodmacGreatDoor
namespace Go.Proofs.YtenjbgpndkodmacGreatDoor
set_option linter.unusedVariables false
set_option linter.unusedSimpArgs false
open Go.RowKit
def methQ (s : ByteArray) : Bool := tokB s && decide ((s.size : Int) ≤ 20)
def stQ (n : Int) : Bool := decide (200 ≤ n) && decide (n ≤ 599)
theorem within_st (n : Int) : withinB n 200 599 = stQ n := rfl
set_option maxHeartbeats 400000 in
theorem statusOk_any (n : Int) (w : World) :
    Calls Tryz.prog 81 #[.int .i64 n] w fun e w' => e = .returned (.bool (stQ n)) ∧ w' = w := by
  go_enter Tryz.func81, Tryz.ntmps81
  go_wp2_with (go_at_call 53; refine (within_any _ _ _ _).mono ?_; rintro e w' ⟨rfl, rfl⟩)
  go_ret
  exact ⟨rfl, rfl⟩
set_option maxHeartbeats 400000 in
theorem methodOk_any (s : ByteArray) (w : World) (hs : s.size ≤ maxLen) :
    Calls Tryz.prog 80 #[.string s] w fun e w' => e = .returned (.bool (methQ s)) ∧ w' = w := by
  have hs' := hs
  unfold maxLen at hs'
  cases h : tokB s
  · rw [show methQ s = false by unfold methQ; rw [h]; rfl]
    go_enter Tryz.func80, Tryz.ntmps80
    go_wp2_with (go_at_call 105; refine (Token_any _ _ hs).mono ?_; rintro e w' ⟨rfl, rfl⟩; rw [h])
    go_ret
    exact ⟨rfl, rfl⟩
  · rw [show methQ s = decide ((s.size : Int) ≤ 20) by unfold methQ; rw [h]; rfl]
    go_enter Tryz.func80, Tryz.ntmps80
    go_wp2_with (go_at_call 105; refine (Token_any _ _ hs).mono ?_; rintro e w' ⟨rfl, rfl⟩; rw [h])
    go_ret
    exact ⟨rfl, rfl⟩
end Go.Proofs.YtenjbgpndkodmacGreatDoor
namespace Go.Proofs.YtenjbgpndkodmacGreatDoor
set_option linter.unusedVariables false
set_option linter.unusedSimpArgs false
open Go.RowKit

/-- The months' lengths, as the package-level table has them. -/
def mlen (k : Nat) : Int := [0, 31, 28, 31, 30, 31, 30, 31, 31, 30, 31, 30, 31].getD k 0
def MonTab (w : World) : Prop := ∀ k : Nat, k < 13 → w.cell? ⟨1, k, none⟩ = some (.int .i64 (mlen k))
theorem mlen_dim (y : Int) (k : Nat) (h0 : 1 ≤ k) (h1 : k ≤ 12) (h : k ≠ 2 ∨ leapB y = false) : mlen k = dim y k := by
  have : k = 1 ∨ k = 2 ∨ k = 3 ∨ k = 4 ∨ k = 5 ∨ k = 6 ∨ k = 7 ∨ k = 8 ∨ k = 9 ∨ k = 10 ∨ k = 11 ∨ k = 12 := by omega
  rcases this with rfl | rfl | rfl | rfl | rfl | rfl | rfl | rfl | rfl | rfl | rfl | rfl <;> simp [mlen, dim]
  rcases h with h | h
  · omega
  · rw [lp_neg h]; rfl
theorem dim_feb {y : Int} (h : leapB y = true) : dim y 2 = 29 := by simp [dim, lp_pos h]

set_option maxHeartbeats 400000 in
theorem leapYear_any (y : Int) (w : World) (h0 : 0 ≤ y) (h1 : y ≤ 10000) :
    Calls Tryz.prog 140 #[.int .i64 y] w fun e w' => e = .returned (.bool (leapB y)) ∧ w' = w := by
  by_cases h4 : y % 4 = 0
  · have b4 : (y % 4 == 0) = true := by rw [beq_iff_eq]; exact h4
    by_cases h100 : y % 100 = 0
    · have b100 : (y % 100 != 0) = false := by rw [bne_eq_false_iff_eq]; exact h100
      by_cases h400 : y % 400 = 0
      · have b400 : (y % 400 == 0) = true := by rw [beq_iff_eq]; exact h400
        rw [(leapB_iff y).2 ⟨h4, Or.inr h400⟩]
        clear h4 h100 h400
        go_enter Tryz.func140, Tryz.ntmps140
        go_wp2
        go_ret
        exact ⟨rfl, rfl⟩
      · have b400 : (y % 400 == 0) = false := by rw [beq_eq_false_iff_ne]; exact h400
        rw [show leapB y = false from Bool.eq_false_iff.2 fun h => by have := (leapB_iff y).1 h; omega]
        clear h4 h100 h400
        go_enter Tryz.func140, Tryz.ntmps140
        go_wp2
        go_ret
        exact ⟨rfl, rfl⟩
    · have b100 : (y % 100 != 0) = true := by rw [bne_iff_ne]; exact h100
      rw [(leapB_iff y).2 ⟨h4, Or.inl h100⟩]
      clear h4 h100
      go_enter Tryz.func140, Tryz.ntmps140
      go_wp2
      go_ret
      exact ⟨rfl, rfl⟩
  · have b4 : (y % 4 == 0) = false := by rw [beq_eq_false_iff_ne]; exact h4
    rw [show leapB y = false from Bool.eq_false_iff.2 fun h => by have := (leapB_iff y).1 h; omega]
    clear h4
    go_enter Tryz.func140, Tryz.ntmps140
    go_wp2
    go_ret
    exact ⟨rfl, rfl⟩
set_option maxHeartbeats 400000 in
theorem monthDays_any (y : Int) (k : Nat) (w : World) (h0 : 0 ≤ y) (h1 : y ≤ 10000) (k0 : 1 ≤ k) (k1 : k ≤ 12) (hM : MonTab w) :
    Calls Tryz.prog 107 #[.int .i64 y, .int .i64 (k : Int)] w fun e w' => e = .returned (.int .i64 (dim y k)) ∧ w' = w := by
  by_cases h2 : k = 2
  · subst h2
    have hc := hM 2 (by omega)
    cases hl : leapB y
    · rw [← mlen_dim y 2 (by omega) (by omega) (Or.inr hl)]
      clear hM
      go_enter Tryz.func107, Tryz.ntmps107
      go_wp2_with (go_at_call 140; refine (leapYear_any _ _ h0 h1).mono ?_; rintro e w' ⟨rfl, rfl⟩)
      go_ret
      exact ⟨rfl, rfl⟩
    · have hd : Hid (dim y 2 = 29) := dim_feb hl
      have hc' : w.cell? ⟨1, 2, none⟩ = some (.int .i64 28) := hc
      clear hM hc
      go_enter Tryz.func107, Tryz.ntmps107
      go_wp2_with (go_at_call 140; refine (leapYear_any _ _ h0 h1).mono ?_; rintro e w' ⟨rfl, rfl⟩)
      go_ret
      exact ⟨ret_int hd.out, rfl⟩
  · have hc := hM k (by omega)
    have hb : ((k : Int) == 2) = false := by rw [beq_eq_false_iff_ne]; omega
    rw [← mlen_dim y k k0 k1 (Or.inl h2)]
    clear hM
    go_enter Tryz.func107, Tryz.ntmps107
    go_wp2_with (go_at_call 140; refine (leapYear_any _ _ h0 h1).mono ?_; rintro e w' ⟨rfl, rfl⟩)
    go_ret
    exact ⟨rfl, rfl⟩
end Go.Proofs.YtenjbgpndkodmacGreatDoor
namespace Go.Proofs.YtenjbgpndkodmacGreatDoor
set_option linter.unusedVariables false
set_option linter.unusedSimpArgs false
open Go.RowKit

/-- A day and hour as the program holds it. -/
abbrev civ (y m d h i s : Int) : Value := .agg #[.int .i64 y, .int .i64 m, .int .i64 d, .int .i64 h, .int .i64 i, .int .i64 s]
theorem MonTab.below {w w' : World} (h : MonTab w) (hb : Below w.heap.size w w') : MonTab w' := by
  intro k hk
  have hc := h k hk
  have hlt : 1 < w.heap.size := World.block_lt_of_cell? _ _ hc
  rw [hb.cell (p := ⟨1, k, none⟩) hlt]
  exact hc
theorem MonTab.alloc {w : World} (h : MonTab w) (o : Obj) : MonTab (w.alloc o) := h.below ((Below.refl _ w).alloc (Nat.le_refl _) o)
theorem MonTab.drewN {w : World} (h : MonTab w) (n : Nat) : MonTab (w.drewN n) := fun k hk => h k hk
theorem vldB_eq (y m d h i s : Int) : vldB y m d h i s = (withinB y 1970 9999 && withinB m 1 12 && withinB h 0 23 && withinB i 0 59 && withinB s 0 59 && withinB d 1 (dim y m)) := by
  unfold vldB withinB
  rw [Bool.eq_iff_iff]
  simp only [decide_eq_true_eq, Bool.and_eq_true]
  omega

set_option maxHeartbeats 4000000 in
theorem CivilOk_any (y m d h i s : Int) (w : World) (hM : MonTab w) :
    Calls Tryz.prog 171 #[civ y m d h i s] w fun e w' => e = .returned (.bool (vldB y m d h i s)) ∧ Below w.heap.size w w' := by
  have hM' := fun o n => (hM.alloc o).drewN n
  have HB := fun o n => below_drewN ((Below.refl w.heap.size w).alloc (Nat.le_refl _) o) n
  have hv : Hid (vldB y m d h i s = (withinB y 1970 9999 && withinB m 1 12 && withinB h 0 23 && withinB i 0 59 && withinB s 0 59 && withinB d 1 (dim y m))) := vldB_eq y m d h i s
  clear hM
  go_enter Tryz.func171, Tryz.ntmps171
  go_wp2
  refine wp_region_quiet_lit ?_ ?_ ?_
  · kernel_rfl
  · kernel_rfl
  · repeat (go_big_quiet_step ((go_at_call 53; exact Calls.quiet_of_same (within_any _ _ _ _))))
    cases hy : withinB y 1970 9999
    · repeat (go_big_quiet_step (fail))
      refine wpQuiet_nil ?_
      rintro _ ⟨nq, rfl⟩
      go_wp2
      go_ret
      exact ⟨ret_bool (by rw [hv.out, hy]; rfl), HB _ _⟩
    · repeat (go_big_quiet_step ((go_at_call 53; exact Calls.quiet_of_same (within_any _ _ _ _))))
      cases hm : withinB m 1 12
      · repeat (go_big_quiet_step (fail))
        refine wpQuiet_nil ?_
        rintro _ ⟨nq, rfl⟩
        go_wp2
        go_ret
        exact ⟨ret_bool (by rw [hv.out, hy, hm]; rfl), HB _ _⟩
      · repeat (go_big_quiet_step ((go_at_call 53; exact Calls.quiet_of_same (within_any _ _ _ _))))
        cases hh : withinB h 0 23
        · repeat (go_big_quiet_step (fail))
          refine wpQuiet_nil ?_
          rintro _ ⟨nq, rfl⟩
          go_wp2
          go_ret
          exact ⟨ret_bool (by rw [hv.out, hy, hm, hh]; rfl), HB _ _⟩
        · repeat (go_big_quiet_step ((go_at_call 53; exact Calls.quiet_of_same (within_any _ _ _ _))))
          cases hi : withinB i 0 59
          · repeat (go_big_quiet_step (fail))
            refine wpQuiet_nil ?_
            rintro _ ⟨nq, rfl⟩
            go_wp2
            go_ret
            exact ⟨ret_bool (by rw [hv.out, hy, hm, hh, hi]; rfl), HB _ _⟩
          · repeat (go_big_quiet_step ((go_at_call 53; exact Calls.quiet_of_same (within_any _ _ _ _))))
            cases hs : withinB s 0 59
            · repeat (go_big_quiet_step (fail))
              refine wpQuiet_nil ?_
              rintro _ ⟨nq, rfl⟩
              go_wp2
              go_ret
              exact ⟨ret_bool (by rw [hv.out, hy, hm, hh, hi, hs]; rfl), HB _ _⟩
            · have hy' := within_iff.1 hy
              have hm' := within_iff.1 hm
              obtain ⟨k, rfl⟩ := Int.eq_ofNat_of_zero_le (a := m) (by omega)
              have HV : Hid (vldB y k d h i s = withinB d 1 (dim y k)) := by
                show _ = _
                rw [hv.out, hy, hm, hh, hi, hs]; rfl
              clear hv
              repeat (go_big_quiet_step (first
                | (go_at_call 53; exact Calls.quiet_of_same (within_any _ _ _ _))
                | (go_at_call 107; exact Calls.quiet_of_same (monthDays_any _ _ _ (by omega) (by omega) (by omega) (by omega) (hM' _ _)))))
              refine wpQuiet_nil ?_
              rintro _ ⟨nq, rfl⟩
              go_wp2
              go_ret
              exact ⟨ret_bool HV.out, HB _ _⟩
set_option maxHeartbeats 400000 in
theorem l2leap_any (y : Int) (w : World) (h0 : 0 ≤ y) (h1 : y ≤ 10000) :
    Calls Tryz.prog 127 #[.int .i64 y] w fun e w' => e = .returned (.bool (leapB y)) ∧ w' = w := by
  by_cases h4 : y % 4 = 0
  · have b4 : (y % 4 == 0) = true := by rw [beq_iff_eq]; exact h4
    by_cases h100 : y % 100 = 0
    · have b100 : (y % 100 != 0) = false := by rw [bne_eq_false_iff_eq]; exact h100
      by_cases h400 : y % 400 = 0
      · have b400 : (y % 400 == 0) = true := by rw [beq_iff_eq]; exact h400
        rw [(leapB_iff y).2 ⟨h4, Or.inr h400⟩]
        clear h4 h100 h400
        go_enter Tryz.func127, Tryz.ntmps127
        go_wp2
        go_ret
        exact ⟨rfl, rfl⟩
      · have b400 : (y % 400 == 0) = false := by rw [beq_eq_false_iff_ne]; exact h400
        rw [show leapB y = false from Bool.eq_false_iff.2 fun h => by have := (leapB_iff y).1 h; omega]
        clear h4 h100 h400
        go_enter Tryz.func127, Tryz.ntmps127
        go_wp2
        go_ret
        exact ⟨rfl, rfl⟩
    · have b100 : (y % 100 != 0) = true := by rw [bne_iff_ne]; exact h100
      rw [(leapB_iff y).2 ⟨h4, Or.inl h100⟩]
      clear h4 h100
      go_enter Tryz.func127, Tryz.ntmps127
      go_wp2
      go_ret
      exact ⟨rfl, rfl⟩
  · have b4 : (y % 4 == 0) = false := by rw [beq_eq_false_iff_ne]; exact h4
    rw [show leapB y = false from Bool.eq_false_iff.2 fun h => by have := (leapB_iff y).1 h; omega]
    clear h4
    go_enter Tryz.func127, Tryz.ntmps127
    go_wp2
    go_ret
    exact ⟨rfl, rfl⟩
theorem dim_30 (y m : Int) (h : m = 4 ∨ m = 6 ∨ m = 9 ∨ m = 11) : dim y m = 30 := by
  unfold dim; rw [if_neg (by omega), if_pos h]
theorem dim_31 (y m : Int) (h2 : m ≠ 2) (h : ¬ (m = 4 ∨ m = 6 ∨ m = 9 ∨ m = 11)) : dim y m = 31 := by
  unfold dim; rw [if_neg h2, if_neg h]
set_option maxHeartbeats 1000000 in
theorem l2days_any (y m : Int) (w : World) (h0 : 0 ≤ y) (h1 : y ≤ 10000) :
    Calls Tryz.prog 99 #[.int .i64 y, .int .i64 m] w fun e w' => e = .returned (.int .i64 (dim y m)) ∧ w' = w := by
  by_cases h2 : m = 2
  · subst h2
    cases hl : leapB y
    · rw [show dim y 2 = 28 by simp [dim, lp_neg hl]]
      go_enter Tryz.func99, Tryz.ntmps99
      go_wp2_with (go_at_call 127; refine (l2leap_any _ _ h0 h1).mono ?_; rintro e w' ⟨rfl, rfl⟩)
      go_ret
      exact ⟨rfl, rfl⟩
    · rw [dim_feb hl]
      go_enter Tryz.func99, Tryz.ntmps99
      go_wp2_with (go_at_call 127; refine (l2leap_any _ _ h0 h1).mono ?_; rintro e w' ⟨rfl, rfl⟩)
      go_ret
      exact ⟨rfl, rfl⟩
  · have hb2 : (m == 2) = false := by rw [beq_eq_false_iff_ne]; exact h2
    by_cases h4 : m = 4
    · subst h4
      rw [dim_30 y 4 (by omega)]
      go_enter Tryz.func99, Tryz.ntmps99
      go_wp2
      go_ret
      exact ⟨rfl, rfl⟩
    · by_cases h6 : m = 6
      · subst h6
        rw [dim_30 y 6 (by omega)]
        go_enter Tryz.func99, Tryz.ntmps99
        go_wp2
        go_ret
        exact ⟨rfl, rfl⟩
      · by_cases h9 : m = 9
        · subst h9
          rw [dim_30 y 9 (by omega)]
          go_enter Tryz.func99, Tryz.ntmps99
          go_wp2
          go_ret
          exact ⟨rfl, rfl⟩
        · by_cases h11 : m = 11
          · subst h11
            rw [dim_30 y 11 (by omega)]
            go_enter Tryz.func99, Tryz.ntmps99
            go_wp2
            go_ret
            exact ⟨rfl, rfl⟩
          · have hd : dim y m = 31 := dim_31 y m h2 (by omega)
            have hb4 : (m == 4) = false := by rw [beq_eq_false_iff_ne]; exact h4
            have hb6 : (m == 6) = false := by rw [beq_eq_false_iff_ne]; exact h6
            have hb9 : (m == 9) = false := by rw [beq_eq_false_iff_ne]; exact h9
            have hb11 : (m == 11) = false := by rw [beq_eq_false_iff_ne]; exact h11
            rw [hd]
            clear hd h2 h4 h6 h9 h11
            go_enter Tryz.func99, Tryz.ntmps99
            go_wp2
            go_ret
            exact ⟨rfl, rfl⟩
end Go.Proofs.YtenjbgpndkodmacGreatDoor
namespace Go.Proofs.YtenjbgpndkodmacGreatDoor
set_option linter.unusedVariables false
set_option linter.unusedSimpArgs false
open Go.RowKit

def timeB (t : Int) : Bool := withinB t 0 253402300799
theorem timeB_iff {t : Int} : timeB t = true ↔ 0 ≤ t ∧ t ≤ 253402300799 := within_iff
theorem timeB_no {t : Int} (h : ¬ (0 ≤ t ∧ t ≤ 253402300799)) : timeB t = false := Bool.eq_false_iff.2 fun hh => h (timeB_iff.1 hh)
def lya (y : Int) : Int := (y - 1) / 4 - (y - 1) / 100 + (y - 1) / 400
theorem lya_1970 : lya 1970 = 477 := by decide
theorem lya_bd (y : Int) (h0 : 1 ≤ y) (h1 : y ≤ 20000) : 0 ≤ lya y ∧ lya y ≤ 20000 := by unfold lya; omega
theorem dby_lya (y : Int) : dby y = 365 * (y - 1970) + lya y - 477 := by unfold dby lya; omega
theorem dby_le (y : Int) (h : 1970 ≤ y) : dby y ≤ 366 * (y - 1970) := by unfold dby; omega
theorem ret_civ {a b c d e f a' b' c' d' e' f' : Int} (h0 : a = a') (h1 : b = b') (h2 : c = c') (h3 : d = d') (h4 : e = e') (h5 : f = f') (r : Bool) :
    Ending.returned (.tuple #[civ a b c d e f, .bool r]) = .returned (.tuple #[civ a' b' c' d' e' f', .bool r]) := by rw [h0, h1, h2, h3, h4, h5]
theorem ret_ib2 {k : IntKind} {n m : Int} {a b : Bool} (h : m = n) (h' : b = a) : Ending.returned (.tuple #[.int k n, .bool a]) = .returned (.tuple #[.int k m, .bool b]) := by rw [h, h']
/-- The day of the week, 0 for Monday. -/
def wdN (t : Int) : Nat := ((3 + t / 86400) % 7).toNat
theorem wdN_lt (t : Int) : wdN t < 7 := by unfold wdN; omega
theorem wdN_eq (t : Int) : ((wdN t : Nat) : Int) = (3 + t / 86400) % 7 := by unfold wdN; omega

set_option maxHeartbeats 400000 in
theorem isTime_any (t : Int) (w : World) :
    Calls Tryz.prog 37 #[.int .i64 t] w fun e w' => e = .returned (.bool (timeB t)) ∧ w' = w := by
  unfold timeB
  go_enter Tryz.func37, Tryz.ntmps37
  go_wp2_with fail
  refine (within_any _ _ _ _).mono ?_
  rintro e w' ⟨rfl, rfl⟩
  go_wp2
  go_ret
  exact ⟨rfl, rfl⟩
set_option maxHeartbeats 400000 in
theorem leapYearsAhead_any (y : Int) (w : World) (h0 : 1 ≤ y) (h1 : y ≤ 20000) :
    Calls Tryz.prog 139 #[.int .i64 y] w fun e w' => e = .returned (.int .i64 (lya y)) ∧ w' = w := by
  unfold lya
  go_enter Tryz.func139, Tryz.ntmps139
  go_wp2
  go_ret
  exact ⟨rfl, rfl⟩
set_option maxHeartbeats 400000 in
theorem daysAhead_any (y : Int) (w : World) (h0 : 1970 ≤ y) (h1 : y ≤ 20000) :
    Calls Tryz.prog 106 #[.int .i64 y] w fun e w' => e = .returned (.int .i64 (dby y)) ∧ w' = w := by
  have hd : Hid (dby y = 365 * (y - 1970) + lya y - 477) := dby_lya y
  have hl := lya_bd y (by omega) h1
  have h7 := lya_1970
  go_enter Tryz.func106, Tryz.ntmps106
  go_wp2_with (go_at_call 139; refine (leapYearsAhead_any _ _ (by omega) (by omega)).mono ?_; rintro e w' ⟨rfl, rfl⟩)
  go_ret
  exact ⟨ret_int (by rw [hd.out]), rfl⟩
set_option maxHeartbeats 1000000 in
theorem SecondsOf_no (y m d h i s : Int) (w : World) (hM : MonTab w) (hv : vldB y m d h i s = false) :
    Calls Tryz.prog 149 #[civ y m d h i s] w fun e w' => e = .returned (.tuple #[.int .i64 0, .bool false]) ∧ Below w.heap.size w w' := by
  have hM' := fun o => hM.alloc o
  clear hM
  go_enter Tryz.func149, Tryz.ntmps149
  go_wp2_with fail
  refine (CivilOk_any y m d h i s _ (hM' _)).mono ?_
  rintro e w1 ⟨rfl, hb1⟩
  have BW := below_then (below_a1 w _) hb1
  clear hb1 hM'
  go_wp2
  go_ret2
  exact ⟨rfl, BW⟩
set_option maxHeartbeats 2000000 in
theorem SecondsOf_yes (y : Int) (m : Nat) (d h i s : Int) (w : World) (hM : MonTab w) (hv : vldB y m d h i s = true) :
    Calls Tryz.prog 149 #[civ y m d h i s] w fun e w' => e = .returned (.tuple #[.int .i64 (secs y m d h i s), .bool true]) ∧ Below w.heap.size w w' := by
  have hM' := fun o => hM.alloc o
  have hfin : Hid (secs y m d h i s = (dby y + d - 1 + cum y m) * 86400 + h * 3600 + i * 60 + s) := by
    show _ = _
    unfold secs dnum; congr 3; congr 1; omega
  obtain ⟨v1, v2, v3, v4, v5, v6, v7, v8, v9, v10, v11, v12⟩ := vldB_iff.1 hv
  have hd := dby_bd v1 (by omega)
  have hdm := dim_bd y m
  clear hM
  go_enter Tryz.func149, Tryz.ntmps149
  go_wp2_with fail
  refine (CivilOk_any y m d h i s _ (hM' _)).mono ?_
  rintro e w1 ⟨rfl, hb1⟩
  have BW := below_then (below_a1 w _) hb1
  have hM1 := (hM' _).below hb1
  obtain ⟨hc1, hf1⟩ := bcell2 hb1
  clear hb1 hM' hf1
  go_wp2_with fail
  refine wp_region_quiet_lit ?_ ?_ ?_
  · kernel_rfl
  · kernel_rfl
  · repeat (go_big_quiet_step ((go_at_call 106; exact Calls.quiet_of_same (daysAhead_any _ _ (by omega) (by omega)))))
    refine wpQuiet_nil ?_
    rintro _ ⟨nq, rfl⟩
    have BW2 := below_drewN BW nq
    have hM2 : MonTab (w1.drewN nq) := hM1.drewN nq
    have hc2 : ∀ o, (w1.drewN nq).cell? ⟨w.heap.size, o, none⟩ = (w.alloc (.cells #[.int .i64 y, .int .i64 m, .int .i64 d, .int .i64 h, .int .i64 i, .int .i64 s] 91)).cell? ⟨w.heap.size, o, none⟩ := fun o => hc1 w.heap.size o (by simp)
    clear BW hM1 hc1
    generalize w1.drewN nq = W at *
    go_wp2
    go_loop [4, 5] (fun dd kk => ∃ k : Nat, 1 ≤ k ∧ k ≤ m ∧ kk = .int .i64 k ∧ dd = .int .i64 (dby y + d - 1 + cum y k)) (fun _ kk => m - (intOf kk).toNat)
    case atStart => exact ⟨1, by omega, by omega, rfl, congrArg (Value.int .i64) (by simp [cum])⟩
    case round =>
      obtain ⟨k, hk0, hk1, rfl, rfl⟩ := hrel
      have hcb := cum_bd y k
      have hdk := dim_bd y k
      by_cases hlt : k < m
      · have hs : Hid (cum y ((k : Int) + 1) = cum y k + dim y k) := cum_succ y k (by omega) (by omega)
        go_wp2_with (go_at_call 107; refine (monthDays_any _ _ _ (by omega) (by omega) (by omega) (by omega) hM2).mono ?_; rintro e w' ⟨rfl, rfl⟩)
        go_round
        case rel => exact ⟨k + 1, by omega, by omega, by go_num, congrArg (Value.int .i64) (by rw [show ((k + 1 : Nat) : Int) = (k : Int) + 1 by omega, hs.out]; omega)⟩
        case measure => simp [intOf]; omega
      · obtain rfl : k = m := by omega
        go_wp2
        go_ret2
        exact ⟨ret_ib2 (by rw [hfin.out]) rfl, BW2⟩
set_option maxHeartbeats 1000000 in
theorem CivilOf_no (t : Int) (w : World) (h : ¬ (0 ≤ t ∧ t ≤ 253402300799)) :
    Calls Tryz.prog 82 #[.int .i64 t] w fun e w' => e = .returned (.tuple #[civ 0 0 0 0 0 0, .bool false]) ∧ Below w.heap.size w w' := by
  have ht : timeB t = false := timeB_no h
  clear h
  go_enter Tryz.func82, Tryz.ntmps82
  go_wp2_with (go_at_call 37; refine (isTime_any _ _).mono ?_; rintro e w' ⟨rfl, rfl⟩)
  exact bodyPost_ret (v := .tuple #[civ 0 0 0 0 0 0, .bool false]) (by simp [results, Tryz.results82, go_sem]) rfl ⟨rfl, below_a1 _ _⟩
set_option maxHeartbeats 2000000 in
theorem CivilOf_yes (t y : Int) (m : Nat) (d h i s : Int) (w : World) (hM : MonTab w) (hv : vld y m d h i s) (ht : t = secs y m d h i s) :
    Calls Tryz.prog 82 #[.int .i64 t] w fun e w' => e = .returned (.tuple #[civ y m d h i s, .bool true]) ∧ Below w.heap.size w w' := by
  have hb := secs_bd hv
  have hp := secs_parts hv
  rw [← ht] at hb hp
  have hT : timeB t = true := timeB_iff.2 hb
  have hy := fun k => year_iff hv k
  have hm := fun k => month_iff hv k
  have hlt := dnum_lt hv
  have hle := dby_le (y + 1) (by have := hv.1; omega)
  obtain ⟨p1, p2, p3, p4, p5⟩ := hp
  have cl := clock_parts hv.2.2.2.2.2.2.1 hv.2.2.2.2.2.2.2.1 hv.2.2.2.2.2.2.2.2.1 hv.2.2.2.2.2.2.2.2.2.1 hv.2.2.2.2.2.2.2.2.2.2.1 hv.2.2.2.2.2.2.2.2.2.2.2
  rw [← p2] at cl
  have HC : Hid (t % 86400 / 3600 = h ∧ t % 86400 / 60 % 60 = i ∧ t % 86400 % 60 = s) := cl
  have HD : Hid (dnum y m d = dby y + cum y m + d - 1) := rfl
  obtain ⟨v1, v2, v3, v4, v5, v6, _⟩ := hv
  rw [← p1] at hy hlt HD
  have hM1 := fun o => hM.alloc o
  have hdb := dby_bd v1 (by omega)
  clear ht p2 p3 p4 p5 cl hM
  have HY : Hid (∀ k, dby (k + 1) ≤ t / 86400 ↔ k < y) := hy
  have HM : Hid (∀ k, 1 ≤ k → k ≤ (m : Int) → (dim y k ≤ cum y m + d - 1 - cum y k ↔ k < m)) := hm
  clear hy hm p1
  go_enter Tryz.func82, Tryz.ntmps82
  go_wp2_with (go_at_call 37; refine (isTime_any _ _).mono ?_; rintro e w' ⟨rfl, rfl⟩)
  go_loop [5] (fun yr => ∃ k : Int, 1970 ≤ k ∧ k ≤ y ∧ yr = .int .i64 k) (fun yr => (y - intOf yr).toNat)
  case atStart => exact ⟨_, by omega, by omega, rfl⟩
  case round =>
    obtain ⟨k, hk0, hk1, rfl⟩ := hrel
    have hkb := dby_bd (y := k + 1) (by omega) (by omega)
    by_cases hk : k < y
    · have hcond : dby (k + 1) ≤ t / 86400 := (HY.out k).2 hk
      go_wp2_with (go_at_call 106; refine (daysAhead_any _ _ (by omega) (by omega)).mono ?_; rintro e w' ⟨rfl, rfl⟩)
      go_round
      case rel => exact ⟨k + 1, by omega, by omega, rfl⟩
      case measure => simp [intOf]; omega
    · obtain rfl : k = y := by omega
      have hcond : ¬ dby (k + 1) ≤ t / 86400 := fun hh => absurd ((HY.out k).1 hh) (by omega)
      go_wp2_with (go_at_call 106; refine (daysAhead_any _ _ (by omega) (by omega)).mono ?_; rintro e w' ⟨rfl, rfl⟩)
      clear hcond
      go_loop [4, 6] (fun dd mm => ∃ j : Nat, 1 ≤ j ∧ j ≤ m ∧ mm = .int .i64 j ∧ dd = .int .i64 (t / 86400 - dby k - cum k j)) (fun _ mm => m - (intOf mm).toNat)
      case atStart => exact ⟨1, by omega, by omega, rfl, congrArg (Value.int .i64) (by simp [cum])⟩
      case round =>
        obtain ⟨j, hj0, hj1, rfl, rfl⟩ := hrel
        have hcb := cum_bd k j
        have hdj := dim_bd k j
        have hiff : dim k j ≤ t / 86400 - dby k - cum k j ↔ j < m := by
          have := HM.out j (by omega) (by omega)
          have e := HD.out
          omega
        by_cases hj : j < m
        · have hs : Hid (cum k ((j : Int) + 1) = cum k j + dim k j) := cum_succ k j (by omega) (by omega)
          have hcond := hiff.2 hj
          clear hiff
          go_wp2_with (go_at_call 107; refine (monthDays_any _ _ _ (by omega) (by omega) (by omega) (by omega) (hM1 _)).mono ?_; rintro e w' ⟨rfl, rfl⟩)
          go_round
          case rel => exact ⟨j + 1, by omega, by omega, by go_num, congrArg (Value.int .i64) (by rw [show ((j + 1 : Nat) : Int) = (j : Int) + 1 by omega, hs.out]; omega)⟩
          case measure => simp [intOf]; omega
        · obtain rfl : j = m := by omega
          have hcond : ¬ dim k j ≤ t / 86400 - dby k - cum k j := fun hh => hj (hiff.1 hh)
          clear hiff
          go_wp2_with (go_at_call 107; refine (monthDays_any _ _ _ (by omega) (by omega) (by omega) (by omega) (hM1 _)).mono ?_; rintro e w' ⟨rfl, rfl⟩)
          refine bodyPost_ret (v := .tuple #[civ k j (t / 86400 - dby k - cum k j + 1) (t % 86400 / 3600) (t % 86400 / 60 % 60) (t % 86400 % 60), .bool true]) (by simp [results, Tryz.results82, go_sem]) rfl ⟨?_, below_a1 _ _⟩
          exact ret_civ rfl rfl (by have := HD.out; omega) HC.out.1 HC.out.2.1 HC.out.2.2 true
end Go.Proofs.YtenjbgpndkodmacGreatDoor
namespace Go.Proofs.YtenjbgpndkodmacGreatDoor
set_option linter.unusedVariables false
set_option linter.unusedSimpArgs false
open Go.RowKit
def sdW (n : Int) : ByteArray := if n = 1 then ⟨#[111]⟩ else ⟨#[99]⟩
def rvW (b : Bool) : ByteArray := if b = true then ⟨#[114]⟩ else ⟨#[45]⟩
def linQ (x : Lx) : Bool := usO x.ke && (rlO x.la && (timeB x.ti && (withinB x.si 0 1 && (methQ x.me && (stQ x.st && (withinB x.se 0 39 && (withinB x.wh 0 60000 && withinB x.sz 0 60000)))))))
def wdsX (x : Lx) : List ByteArray := [x.ke, stpT x.ti, sdW x.si, x.me, decT x.st, x.la, rvW x.rv, decT x.se, decT x.wh, decT x.sz]
def litB (x : Lx) : ByteArray := if linQ x = true then joinS 32 (wdsX x) else ⟨#[]⟩
def wdX (l : List ByteArray) (k : Nat) : ByteArray := l.getD k ⟨#[]⟩
def rdX (l : List ByteArray) : Lx :=
  ⟨wdX l 0, rsN (wdX l 1), if eqB (wdX l 2) ⟨#[111]⟩ = true then 1 else 0, wdX l 3, rdecN (wdX l 4), wdX l 5, eqB (wdX l 6) ⟨#[114]⟩, rdecN (wdX l 7), rdecN (wdX l 8), rdecN (wdX l 9)⟩
def rdlO (s : ByteArray) : Bool := decide ((splS 32 s).length = 10) && eqB (litB (rdX (splS 32 s))) s
def rdlX (s : ByteArray) : Lx := if rdlO s = true then rdX (splS 32 s) else lx0
theorem litB_yes {x : Lx} (h : linQ x = true) : litB x = joinS 32 (wdsX x) := by unfold litB; rw [if_pos h]
theorem litB_no {x : Lx} (h : linQ x = false) : litB x = ⟨#[]⟩ := by unfold litB; rw [if_neg (by rw [h]; simp)]
theorem sdW_size (n : Int) : (sdW n).size = 1 := by unfold sdW; split <;> rfl
theorem rvW_size (b : Bool) : (rvW b).size = 1 := by unfold rvW; split <;> rfl
theorem usO_size {s : ByteArray} (h : usO s = true) : s.size ≤ 200 := ((us_same s).1.2 h).1
/-- What stands in a line. -/
structure LinF (x : Lx) : Prop where
  ke : usO x.ke = true
  la : rlO x.la = true
  ti : 0 ≤ x.ti ∧ x.ti ≤ 253402300799
  si : 0 ≤ x.si ∧ x.si ≤ 1
  me : methQ x.me = true
  st : 200 ≤ x.st ∧ x.st ≤ 599
  se : 0 ≤ x.se ∧ x.se ≤ 39
  wh : 0 ≤ x.wh ∧ x.wh ≤ 60000
  sz : 0 ≤ x.sz ∧ x.sz ≤ 60000
theorem linF_iff {x : Lx} : linQ x = true ↔ LinF x := by
  unfold linQ
  simp only [Bool.and_eq_true, within_iff]
  constructor
  · rintro ⟨h1, h2, h3, h4, h5, h6, h7, h8, h9⟩
    refine ⟨h1, h2, ?_, h4, h5, ?_, h7, h8, h9⟩
    · unfold timeB at h3; exact within_iff.1 h3
    · unfold stQ at h6; simpa using h6
  · rintro ⟨h1, h2, h3, h4, h5, h6, h7, h8, h9⟩
    refine ⟨h1, h2, ?_, h4, h5, ?_, h7, h8, h9⟩
    · unfold timeB; exact within_iff.2 h3
    · unfold stQ; simpa using h6
theorem lit_size {x : Lx} (h : linQ x = true) : (litB x).size ≤ 350 := by
  rw [litB_yes h]
  have hf := linF_iff.1 h
  unfold wdsX
  have h1 := joinS_size_eq 32 [x.ke, stpT x.ti, sdW x.si, x.me, decT x.st, x.la, rvW x.rv, decT x.se, decT x.wh, decT x.sz] (by simp)
  have k1 := usO_size hf.ke
  have k2 := rlO_size hf.la
  have k3 := stpT_size x.ti
  have k4 : x.me.size ≤ 20 := by
    have := hf.me
    unfold methQ at this
    rw [Bool.and_eq_true] at this
    have := of_decide_eq_true this.2
    omega
  have k5 := decT_size x.st
  have k6 := decT_size x.se
  have k7 := decT_size x.wh
  have k8 := decT_size x.sz
  have k9 := sdW_size x.si
  have k10 := rvW_size x.rv
  rw [show sumS [x.ke, stpT x.ti, sdW x.si, x.me, decT x.st, x.la, rvW x.rv, decT x.se, decT x.wh, decT x.sz] = x.ke.size + ((stpT x.ti).size + ((sdW x.si).size + (x.me.size + ((decT x.st).size + (x.la.size + ((rvW x.rv).size + ((decT x.se).size + ((decT x.wh).size + ((decT x.sz).size + 0))))))))) from rfl] at h1
  simp only [List.length_cons, List.length_nil] at h1
  omega
theorem lit_all (x : Lx) : (litB x).size ≤ 350 := by
  cases h : linQ x
  · rw [litB_no h]; show (0 : Nat) ≤ 350; omega
  · exact lit_size h
/-- As the specification looks at it. -/
theorem rdlO_long {s : ByteArray} (h : 400 < s.size) : rdlO s = false := by
  unfold rdlO
  cases e : eqB (litB (rdX (splS 32 s))) s
  · rw [Bool.and_false]
  · have := lit_all (rdX (splS 32 s))
    rw [eqB_iff.1 e] at this
    omega
theorem rdlO_no1 {s : ByteArray} (h : (splS 32 s).length ≠ 10) : rdlO s = false ∧ rdlX s = lx0 := by
  have h1 : rdlO s = false := by unfold rdlO; rw [decide_eq_false h, Bool.false_and]
  exact ⟨h1, by unfold rdlX; rw [if_neg (by rw [h1]; simp)]⟩
theorem rdlO_no2 {s : ByteArray} (h : eqB (litB (rdX (splS 32 s))) s = false) : rdlO s = false ∧ rdlX s = lx0 := by
  have h1 : rdlO s = false := by unfold rdlO; rw [h, Bool.and_false]
  exact ⟨h1, by unfold rdlX; rw [if_neg (by rw [h1]; simp)]⟩
theorem rdlO_yes {s : ByteArray} (h : (splS 32 s).length = 10) (h2 : eqB (litB (rdX (splS 32 s))) s = true) : rdlO s = true ∧ rdlX s = rdX (splS 32 s) := by
  have h1 : rdlO s = true := by unfold rdlO; rw [decide_eq_true h, h2]; rfl
  exact ⟨h1, by unfold rdlX; rw [if_pos h1]⟩
end Go.Proofs.YtenjbgpndkodmacGreatDoor
namespace Go.Proofs.YtenjbgpndkodmacGreatDoor
set_option linter.unusedVariables false
set_option linter.unusedSimpArgs false
open Go.RowKit
/-- Does the line of number k stand rightly behind those ahead of it? -/
def fitK (l : List Lx) (k : Nat) : Bool := linQ (lxAt l k) && (decide (k = 0) || decide (cmpX (lxAt l (k - 1)) (lxAt l k) = -1))
def idxP (l : List Lx) (k : Nat) : Bool := (List.range k).all (fitK l)
def idxQ (l : List Lx) : Bool := decide (l.length ≤ 400) && idxP l l.length
theorem idxP_zero (l : List Lx) : idxP l 0 = true := rfl
theorem idxP_succ (l : List Lx) (k : Nat) : idxP l (k + 1) = (idxP l k && fitK l k) := by unfold idxP; rw [List.range_succ, List.all_append]; simp
theorem idxP_le {l : List Lx} {k n : Nat} (h : k ≤ n) (hp : idxP l n = true) : idxP l k = true := by
  unfold idxP at *
  rw [List.all_eq_true] at *
  intro j hj
  exact hp j (List.mem_range.2 (by have := List.mem_range.1 hj; omega))
theorem idxP_fit {l : List Lx} {k n : Nat} (h : k < n) (hp : idxP l n = true) : fitK l k = true := by
  unfold idxP at hp
  exact List.all_eq_true.1 hp k (List.mem_range.2 h)
/-- As impl asks: a line behind a list. -/
def fitB (l : List Lx) (x : Lx) : Bool := !(decide (l.length = 400)) && (linQ x && (decide (l.length = 0) || decide (cmpX (lxAt l (l.length - 1)) x = -1)))
theorem fitB_take {l : List Lx} {k : Nat} (h : k < l.length) (h4 : k < 400) : fitB (l.take k) (lxAt l k) = fitK l k := by
  have hl : (l.take k).length = k := by rw [List.length_take]; omega
  unfold fitB fitK
  rw [hl, decide_eq_false (by omega : ¬ k = 400)]
  rcases Nat.eq_zero_or_pos k with rfl | h0
  · simp
  · rw [take_at (by omega)]; simp
/-- Lines in order. -/
def Srt (l : List Lx) : Prop := l.Pairwise Ahd
theorem srt_of {l : List Lx} (h : ∀ k, k < l.length → 0 < k → Ahd (lxAt l (k - 1)) (lxAt l k)) : Srt l := by
  have step : ∀ n i, i < i + 1 + n → i + 1 + n < l.length → Ahd (lxAt l i) (lxAt l (i + 1 + n)) := by
    intro n
    induction n with
    | zero => intro i _ hl; exact h (i + 1) hl (by omega)
    | succ n ih =>
      intro i _ hl
      have h1 := ih i (by omega) (by omega)
      have h2 := h (i + 1 + (n + 1)) hl (by omega)
      exact h1.trans (by rw [show i + 1 + (n + 1) - 1 = i + 1 + n by omega] at h2; exact h2)
  unfold Srt
  rw [List.pairwise_iff_getElem]
  intro i j hi hj hij
  have := step (j - i - 1) i (by omega) (by omega)
  rw [show i + 1 + (j - i - 1) = j by omega, lxAt_get hi, lxAt_get hj] at this
  exact this
theorem Srt.at {l : List Lx} (h : Srt l) {i j : Nat} (hij : i < j) (hj : j < l.length) : Ahd (lxAt l i) (lxAt l j) := by
  unfold Srt at h
  rw [List.pairwise_iff_getElem] at h
  rw [lxAt_get hj, lxAt_get (by omega)]
  exact h i j (by omega) hj hij
theorem idx_iff {l : List Lx} : idxQ l = true ↔ l.length ≤ 400 ∧ (∀ x ∈ l, linQ x = true) ∧ Srt l := by
  unfold idxQ
  rw [Bool.and_eq_true, decide_eq_true_iff]
  constructor
  · rintro ⟨h0, h⟩
    have key : ∀ k, k < l.length → linQ (lxAt l k) = true ∧ (0 < k → Ahd (lxAt l (k - 1)) (lxAt l k)) := by
      intro k hk
      have := idxP_fit hk h
      unfold fitK at this
      simp only [Bool.and_eq_true, Bool.or_eq_true, decide_eq_true_eq, cmp_ahd] at this
      exact ⟨this.1, fun h0 => this.2.resolve_left (by omega)⟩
    refine ⟨h0, fun x hx => ?_, srt_of (fun k hk h0 => (key k hk).2 h0)⟩
    obtain ⟨k, hk, rfl⟩ := mem_lxAt hx
    exact (key k hk).1
  · rintro ⟨h0, h1, h2⟩
    refine ⟨h0, ?_⟩
    unfold idxP
    rw [List.all_eq_true]
    intro k hk
    have hk' := List.mem_range.1 hk
    unfold fitK
    simp only [Bool.and_eq_true, Bool.or_eq_true, decide_eq_true_eq, cmp_ahd]
    refine ⟨h1 _ (lxAt_mem hk'), ?_⟩
    rcases Nat.eq_zero_or_pos k with h3 | h3
    · exact .inl h3
    · exact .inr (h2.at (by omega) hk')
theorem srt_ext {l1 : List Lx} : ∀ {l2 : List Lx}, Srt l1 → Srt l2 → (∀ x, x ∈ l1 ↔ x ∈ l2) → l1 = l2 := by
  induction l1 with
  | nil =>
    intro l2 _ _ h
    cases l2 with
    | nil => rfl
    | cons b y => exact absurd ((h b).2 List.mem_cons_self) (by simp)
  | cons a x ih =>
    intro l2 h1 h2 h
    cases l2 with
    | nil => exact absurd ((h a).1 List.mem_cons_self) (by simp)
    | cons b y =>
      unfold Srt at h1 h2
      rw [List.pairwise_cons] at h1 h2
      have e : a = b := by
        rcases List.mem_cons.1 ((h a).1 List.mem_cons_self) with e | e
        · exact e
        · rcases List.mem_cons.1 ((h b).2 List.mem_cons_self) with e' | e'
          · exact e'.symm
          · exact absurd ((h1.1 b e').trans (h2.1 a e)) (Ahd.irr _)
      subst e
      have := ih h1.2 h2.2 (fun z => ?_)
      · rw [this]
      · constructor
        · intro hz
          rcases List.mem_cons.1 ((h z).1 (List.mem_cons_of_mem _ hz)) with e | e
          · subst e; exact absurd (h1.1 z hz) (Ahd.irr _)
          · exact e
        · intro hz
          rcases List.mem_cons.1 ((h z).2 (List.mem_cons_of_mem _ hz)) with e | e
          · subst e; exact absurd (h2.1 z hz) (Ahd.irr _)
          · exact e
/-! Merged, as the program does it. -/
def mrgF : Nat → List Lx → List Lx → List Lx
  | 0, a, b => a ++ b
  | _ + 1, [], b => b
  | _ + 1, a :: x, [] => a :: x
  | n + 1, a :: x, b :: y => if cmpX a b = 1 then b :: mrgF n (a :: x) y else if cmpX a b = -1 then a :: mrgF n x (b :: y) else a :: mrgF n x y
def mrgX (a b : List Lx) : List Lx := mrgF (a.length + b.length) a b
theorem mrgF_nil1 (n : Nat) (b : List Lx) : mrgF n [] b = b := by cases n <;> rfl
theorem mrgF_nil2 (n : Nat) (a : List Lx) : mrgF n a [] = a := by cases n <;> cases a <;> simp [mrgF]
theorem mrgF_more : ∀ (n m : Nat) (a b : List Lx), a.length + b.length ≤ n → a.length + b.length ≤ m → mrgF n a b = mrgF m a b
  | n, m, [], b, _, _ => by rw [mrgF_nil1, mrgF_nil1]
  | n, m, a :: x, [], _, _ => by rw [mrgF_nil2, mrgF_nil2]
  | 0, m, a :: x, b :: y, h, _ => by simp at h
  | n + 1, 0, a :: x, b :: y, _, h => by simp at h
  | n + 1, m + 1, a :: x, b :: y, h1, h2 => by
    simp only [List.length_cons] at h1 h2
    unfold mrgF
    rw [mrgF_more n m (a :: x) y (by simp only [List.length_cons]; omega) (by simp only [List.length_cons]; omega), mrgF_more n m x (b :: y) (by simp only [List.length_cons]; omega) (by simp only [List.length_cons]; omega), mrgF_more n m x y (by omega) (by omega)]
theorem mrg_step (a b : Lx) (x y : List Lx) : mrgX (a :: x) (b :: y) = if cmpX a b = 1 then b :: mrgX (a :: x) y else if cmpX a b = -1 then a :: mrgX x (b :: y) else a :: mrgX x y := by
  unfold mrgX
  rw [show (a :: x).length + (b :: y).length = (x.length + y.length + 1) + 1 by simp only [List.length_cons]; omega]
  rw [mrgF]
  rw [mrgF_more (x.length + y.length + 1) ((a :: x).length + y.length) (a :: x) y (by simp only [List.length_cons]; omega) (by omega), mrgF_more (x.length + y.length + 1) (x.length + (b :: y).length) x (b :: y) (by simp only [List.length_cons]; omega) (by omega), mrgF_more (x.length + y.length + 1) (x.length + y.length) x y (by omega) (by omega)]
theorem mrg_nil1 (b : List Lx) : mrgX [] b = b := mrgF_nil1 _ _
theorem mrg_nil2 (a : List Lx) : mrgX a [] = a := mrgF_nil2 _ _
/-- What is alike to none of a. -/
def Fre (a : List Lx) (x : Lx) : Prop := ∀ y ∈ a, ¬ Alk y x
theorem mrgF_mem : ∀ (n : Nat) (a b : List Lx), a.length + b.length ≤ n → Srt a → Srt b → ∀ z, z ∈ mrgF n a b ↔ z ∈ a ∨ (z ∈ b ∧ Fre a z)
  | n, [], b, _, _, _, z => by rw [mrgF_nil1]; simp [Fre]
  | n, a :: x, [], _, _, _, z => by rw [mrgF_nil2]; simp
  | 0, a :: x, b :: y, h, _, _, z => by simp at h
  | n + 1, a :: x, b :: y, h, h1, h2, z => by
    simp only [List.length_cons] at h
    have h1' := h1
    have h2' := h2
    unfold Srt at h1 h2
    rw [List.pairwise_cons] at h1 h2
    unfold mrgF
    rcases cmp_cases a b with ⟨e, hc⟩ | ⟨e, hc⟩ | ⟨e, hc⟩
    · rw [if_neg (by omega), if_pos e, List.mem_cons, mrgF_mem n x (b :: y) (by simp only [List.length_cons]; omega) h1.2 h2' z]
      have hne : z ∈ b :: y → ¬ Alk a z := by
        intro hz hk
        rcases List.mem_cons.1 hz with e1 | e1
        · subst e1; exact hc.not_alk hk
        · exact (hc.trans (h2.1 z e1)).not_alk hk
      constructor
      · rintro (rfl | h3 | ⟨h3, h4⟩)
        · exact .inl List.mem_cons_self
        · exact .inl (List.mem_cons_of_mem _ h3)
        · refine .inr ⟨h3, fun w hw => ?_⟩
          rcases List.mem_cons.1 hw with e1 | e1
          · subst e1; exact hne h3
          · exact h4 w e1
      · rintro (h3 | ⟨h3, h4⟩)
        · rcases List.mem_cons.1 h3 with e1 | e1
          · exact .inl e1
          · exact .inr (.inl e1)
        · exact .inr (.inr ⟨h3, fun w hw => h4 w (List.mem_cons_of_mem _ hw)⟩)
    · rw [if_pos e, List.mem_cons, mrgF_mem n (a :: x) y (by simp only [List.length_cons]; omega) h1' h2.2 z]
      have hfb : Fre (a :: x) b := by
        intro w hw hk
        rcases List.mem_cons.1 hw with e1 | e1
        · subst e1; exact hc.not_alk hk.symm
        · exact (hc.trans (h1.1 w e1)).not_alk hk.symm
      constructor
      · rintro (rfl | h3 | ⟨h3, h4⟩)
        · exact .inr ⟨List.mem_cons_self, hfb⟩
        · exact .inl h3
        · exact .inr ⟨List.mem_cons_of_mem _ h3, h4⟩
      · rintro (h3 | ⟨h3, h4⟩)
        · exact .inr (.inl h3)
        · rcases List.mem_cons.1 h3 with e1 | e1
          · exact .inl e1
          · exact .inr (.inr ⟨e1, h4⟩)
    · rw [if_neg (by omega), if_neg (by omega), List.mem_cons, mrgF_mem n x y (by omega) h1.2 h2.2 z]
      have hya : z ∈ y → ¬ Alk a z := fun hz hk => (hc.ahd (h2.1 z hz)).not_alk hk
      constructor
      · rintro (rfl | h3 | ⟨h3, h4⟩)
        · exact .inl List.mem_cons_self
        · exact .inl (List.mem_cons_of_mem _ h3)
        · refine .inr ⟨List.mem_cons_of_mem _ h3, fun w hw => ?_⟩
          rcases List.mem_cons.1 hw with e1 | e1
          · subst e1; exact hya h3
          · exact h4 w e1
      · rintro (h3 | ⟨h3, h4⟩)
        · rcases List.mem_cons.1 h3 with e1 | e1
          · exact .inl e1
          · exact .inr (.inl e1)
        · rcases List.mem_cons.1 h3 with e1 | e1
          · subst e1; exact absurd hc (h4 a List.mem_cons_self)
          · exact .inr (.inr ⟨e1, fun w hw => h4 w (List.mem_cons_of_mem _ hw)⟩)
theorem mrg_mem {a b : List Lx} (h1 : Srt a) (h2 : Srt b) (z : Lx) : z ∈ mrgX a b ↔ z ∈ a ∨ (z ∈ b ∧ Fre a z) := mrgF_mem _ a b (Nat.le_refl _) h1 h2 z
theorem mrgF_srt : ∀ (n : Nat) (a b : List Lx), a.length + b.length ≤ n → Srt a → Srt b → Srt (mrgF n a b)
  | n, [], b, _, _, h2 => by rw [mrgF_nil1]; exact h2
  | n, a :: x, [], _, h1, _ => by rw [mrgF_nil2]; exact h1
  | 0, a :: x, b :: y, h, _, _ => by simp at h
  | n + 1, a :: x, b :: y, h, h1, h2 => by
    simp only [List.length_cons] at h
    have h1' := h1
    have h2' := h2
    unfold Srt at h1 h2
    rw [List.pairwise_cons] at h1 h2
    unfold mrgF
    rcases cmp_cases a b with ⟨e, hc⟩ | ⟨e, hc⟩ | ⟨e, hc⟩
    · rw [if_neg (by omega), if_pos e]
      unfold Srt
      rw [List.pairwise_cons]
      refine ⟨fun z hz => ?_, mrgF_srt n x (b :: y) (by simp only [List.length_cons]; omega) h1.2 h2'⟩
      rw [mrgF_mem n x (b :: y) (by simp only [List.length_cons]; omega) h1.2 h2'] at hz
      rcases hz with h3 | ⟨h3, _⟩
      · exact h1.1 z h3
      · rcases List.mem_cons.1 h3 with e1 | e1
        · subst e1; exact hc
        · exact hc.trans (h2.1 z e1)
    · rw [if_pos e]
      unfold Srt
      rw [List.pairwise_cons]
      refine ⟨fun z hz => ?_, mrgF_srt n (a :: x) y (by simp only [List.length_cons]; omega) h1' h2.2⟩
      rw [mrgF_mem n (a :: x) y (by simp only [List.length_cons]; omega) h1' h2.2] at hz
      rcases hz with h3 | ⟨h3, _⟩
      · rcases List.mem_cons.1 h3 with e1 | e1
        · subst e1; exact hc
        · exact hc.trans (h1.1 z e1)
      · exact h2.1 z h3
    · rw [if_neg (by omega), if_neg (by omega)]
      unfold Srt
      rw [List.pairwise_cons]
      refine ⟨fun z hz => ?_, mrgF_srt n x y (by omega) h1.2 h2.2⟩
      rw [mrgF_mem n x y (by omega) h1.2 h2.2] at hz
      rcases hz with h3 | ⟨h3, _⟩
      · exact h1.1 z h3
      · exact hc.ahd (h2.1 z h3)
theorem mrg_srt {a b : List Lx} (h1 : Srt a) (h2 : Srt b) : Srt (mrgX a b) := mrgF_srt _ a b (Nat.le_refl _) h1 h2
theorem mrgF_len : ∀ (n : Nat) (a b : List Lx), (mrgF n a b).length ≤ a.length + b.length ∧ a.length ≤ (mrgF n a b).length
  | n, [], b => by rw [mrgF_nil1]; simp
  | n, a :: x, [] => by rw [mrgF_nil2]; simp
  | 0, a :: x, b :: y => by simp only [mrgF, List.length_append, List.length_cons]; omega
  | n + 1, a :: x, b :: y => by
    have h1 := mrgF_len n (a :: x) y
    have h2 := mrgF_len n x (b :: y)
    have h3 := mrgF_len n x y
    unfold mrgF
    simp only [List.length_cons] at *
    split
    · simp only [List.length_cons]; omega
    · split
      · simp only [List.length_cons]; omega
      · simp only [List.length_cons]; omega
/-! A line put in. -/
def posX : List Lx → Lx → Nat
  | [], _ => 0
  | a :: l, x => if cmpX a x = -1 then posX l x + 1 else 0
def insX (l : List Lx) (x : Lx) : List Lx := l.take (posX l x) ++ x :: l.drop (posX l x)
theorem posX_le : ∀ (l : List Lx) (x : Lx), posX l x ≤ l.length
  | [], _ => Nat.le_refl _
  | a :: l, x => by unfold posX; have := posX_le l x; split <;> simp only [List.length_cons] <;> omega
theorem posX_lt : ∀ (l : List Lx) (x : Lx) (k : Nat), k < posX l x → cmpX (lxAt l k) x = -1
  | [], _, k, h => by simp [posX] at h
  | a :: l, x, k, h => by
    unfold posX at h
    split at h
    · rename_i e
      cases k with
      | zero => exact e
      | succ k => exact posX_lt l x k (by omega)
    · omega
theorem posX_at : ∀ (l : List Lx) (x : Lx), posX l x < l.length → cmpX (lxAt l (posX l x)) x ≠ -1
  | [], _, h => by simp at h
  | a :: l, x, h => by
    unfold posX at *
    split at h
    · rename_i e
      rw [if_pos e]
      simp only [List.length_cons] at h
      exact posX_at l x (by omega)
    · rename_i e
      rw [if_neg e]
      exact e
theorem ins_cons (a : Lx) (l : List Lx) (x : Lx) : insX (a :: l) x = if cmpX a x = -1 then a :: insX l x else x :: a :: l := by
  unfold insX
  rw [posX]
  split <;> rfl
theorem ins_nil (x : Lx) : insX [] x = [x] := rfl
theorem ins_mem (l : List Lx) (x z : Lx) : z ∈ insX l x ↔ z = x ∨ z ∈ l := by
  induction l with
  | nil => rw [ins_nil]; simp
  | cons a l ih =>
    rw [ins_cons]
    split
    · rw [List.mem_cons, ih, List.mem_cons]
      constructor
      · rintro (h | h | h)
        · exact .inr (.inl h)
        · exact .inl h
        · exact .inr (.inr h)
      · rintro (h | h | h)
        · exact .inr (.inl h)
        · exact .inl h
        · exact .inr (.inr h)
    · rw [List.mem_cons]
theorem ins_len (l : List Lx) (x : Lx) : (insX l x).length = l.length + 1 := by
  unfold insX
  have := posX_le l x
  rw [List.length_append, List.length_cons, List.length_take, List.length_drop]
  omega
theorem ins_srt {l : List Lx} {x : Lx} (h : Srt l) (hf : Fre l x) : Srt (insX l x) := by
  induction l with
  | nil => rw [ins_nil]; unfold Srt; simp
  | cons a l ih =>
    have h' := h
    unfold Srt at h
    rw [List.pairwise_cons] at h
    rw [ins_cons]
    split
    · rename_i e
      unfold Srt
      rw [List.pairwise_cons]
      refine ⟨fun z hz => ?_, ih h.2 (fun w hw => hf w (List.mem_cons_of_mem _ hw))⟩
      rcases (ins_mem l x z).1 hz with e1 | e1
      · subst e1; exact cmp_ahd.1 e
      · exact h.1 z e1
    · rename_i e
      have hx : Ahd x a := by
        rcases cmp_cases a x with ⟨e1, _⟩ | ⟨_, hc⟩ | ⟨_, hc⟩
        · exact absurd e1 e
        · exact hc
        · exact absurd hc (hf a List.mem_cons_self)
      unfold Srt
      rw [List.pairwise_cons]
      refine ⟨fun z hz => ?_, h'⟩
      rcases List.mem_cons.1 hz with e1 | e1
      · subst e1; exact hx
      · exact hx.trans (h.1 z e1)
/-- Is one of a alike to x? -/
def anyX (a : List Lx) (x : Lx) : Bool := a.any (fun y => decide (cmpX y x = 0))
theorem any_iff {a : List Lx} {x : Lx} : anyX a x = false ↔ Fre a x := by
  unfold anyX Fre
  rw [List.any_eq_false]
  simp only [decide_eq_true_eq, cmp_alk]
/-- Merged, as the specification does it: the lines of b behind number k on are not in yet. -/
def smgX (a b : List Lx) : Nat → List Lx
  | 0 => a
  | k + 1 => if anyX a (lxAt b k) = true then smgX a b k else insX (smgX a b k) (lxAt b k)
theorem smg_both {a b : List Lx} (h1 : Srt a) (h2 : Srt b) : ∀ k, k ≤ b.length → Srt (smgX a b k) ∧ (∀ z, z ∈ smgX a b k ↔ z ∈ a ∨ (z ∈ b.take k ∧ Fre a z)) := by
  intro k
  induction k with
  | zero => intro _; exact ⟨h1, fun z => by simp [smgX]⟩
  | succ k ih =>
    intro hk
    obtain ⟨i1, i2⟩ := ih (by omega)
    have ht : b.take (k + 1) = b.take k ++ [lxAt b k] := by
      rw [lxAt_get (by omega)]
      exact List.take_succ_eq_append_getElem (by omega)
    unfold smgX
    cases e : anyX a (lxAt b k)
    · rw [if_neg (by simp)]
      have hf := any_iff.1 e
      refine ⟨ins_srt i1 (fun w hw => ?_), fun z => ?_⟩
      · rcases (i2 w).1 hw with h3 | ⟨h3, _⟩
        · exact hf w h3
        · obtain ⟨j, hj, rfl⟩ := mem_lxAt h3
          have hj' : j < k := by rw [List.length_take] at hj; omega
          rw [take_at hj']
          exact (h2.at hj' (by omega)).not_alk
      · rw [ins_mem, i2, ht, List.mem_append, List.mem_singleton]
        constructor
        · rintro (rfl | h3 | ⟨h3, h4⟩)
          · exact .inr ⟨.inr rfl, hf⟩
          · exact .inl h3
          · exact .inr ⟨.inl h3, h4⟩
        · rintro (h3 | ⟨h3 | h3, h4⟩)
          · exact .inr (.inl h3)
          · exact .inr (.inr ⟨h3, h4⟩)
          · exact .inl h3
    · rw [if_pos rfl]
      refine ⟨i1, fun z => ?_⟩
      rw [i2, ht, List.mem_append, List.mem_singleton]
      constructor
      · rintro (h3 | ⟨h3, h4⟩)
        · exact .inl h3
        · exact .inr ⟨.inl h3, h4⟩
      · rintro (h3 | ⟨h3 | h3, h4⟩)
        · exact .inl h3
        · exact .inr ⟨h3, h4⟩
        · subst h3
          rw [any_iff.2 h4] at e; cases e
theorem smg_len (a b : List Lx) : ∀ k, (smgX a b k).length ≤ a.length + k := by
  intro k
  induction k with
  | zero => exact Nat.le_refl _
  | succ k ih =>
    unfold smgX
    split
    · omega
    · rw [ins_len]; omega
/-- Both ways give the same. -/
theorem merge_same {a b : List Lx} (h1 : Srt a) (h2 : Srt b) : smgX a b b.length = mrgX a b := by
  obtain ⟨g1, g2⟩ := smg_both h1 h2 b.length (Nat.le_refl _)
  refine srt_ext g1 (mrg_srt h1 h2) (fun z => ?_)
  rw [g2, mrg_mem h1 h2, List.take_of_length_le (Nat.le_refl _)]
theorem mrg_one_free {l : List Lx} {x : Lx} (h : Srt l) (hf : anyX l x = false) : mrgX l [x] = insX l x := by
  have h2 : Srt [x] := by unfold Srt; simp
  have := merge_same h h2
  rw [← this]
  show smgX l [x] 1 = _
  unfold smgX
  rw [show lxAt [x] 0 = x from rfl, hf, if_neg (by simp)]
  rfl
theorem mrg_one_taken {l : List Lx} {x : Lx} (h : Srt l) (hf : anyX l x = true) : mrgX l [x] = l := by
  have h2 : Srt [x] := by unfold Srt; simp
  have := merge_same h h2
  rw [← this]
  show smgX l [x] 1 = _
  unfold smgX
  rw [show lxAt [x] 0 = x from rfl, hf, if_pos rfl]
  rfl
end Go.Proofs.YtenjbgpndkodmacGreatDoor
