/-
  Chapter 5: the first value of a name; a field out of its line. Both sides.
-/
import Derived.Test.YtbdggopdhnlbfaaDoorF4
import Derived.Lib.IndexLaws
import Derived.Lib.Bytealg
import Derived.Deep.DeepCutAuto
namespace Go.Proofs.YtbdggopdhnlbfaaDoor
set_option linter.unusedVariables false
set_option linter.unusedSimpArgs false
open Go.RowKit
def getB (l : List Fd) (n : ByteArray) : ByteArray := (valuesL l n).getD 0 ⟨#[]⟩
def getO (l : List Fd) (n : ByteArray) : Bool := decide (0 < (valuesL l n).length)
set_option maxHeartbeats 1000000 in
theorem Get_any (v : Value) (l : List Fd) (n : ByteArray) (w : World) (hv : SlF w v l) (hl : l.length ≤ 1048576) (ht : totF l ≤ 1099511627776) (hn : n.size ≤ maxLen) :
    Calls Tryd.prog 39 #[v, .string n] w fun e w' => e = .returned (.tuple #[.string (getB l n), .bool (getO l n)]) ∧ Below w.heap.size w w' := by
  have HV := hideB2 (Values_any v l n w hv hl ht hn)
  have hm := valuesL_len l n
  unfold getB getO
  generalize valuesL l n = L at *
  obtain ⟨a, c0, rfl⟩ := hv.form
  go_enter Tryd.func39, Tryd.ntmps39
  go_wp2_with fail
  refine HV.out.mono ?_
  rintro e w1 ⟨v1, rfl, hb1⟩
  obtain ⟨a1, c1, rfl, hr1⟩ := hb1.rows
  have HB := hideB2 hb1.below
  by_cases h0 : 0 < L.length
  · obtain ⟨g, rfl, hc⟩ := hr1.at h0
    have p0 := hc 0 h0
    have h1 : ((L.length : Int) == 0) = false := by rw [beq_eq_false_iff_ne]; omega
    have HD := hideB2 (decide_eq_true h0)
    generalize hx : L.getD 0 ⟨#[]⟩ = x at *
    have HX := hideB2 hx
    clear hx
    clear hc hb1 hr1 HV
    go_wp2
    go_ret2
    exact ⟨ret_sb HX.out HD.out, HB.out⟩
  · obtain rfl : L = [] := List.eq_nil_of_length_eq_zero (by omega)
    clear hb1 hr1 HV
    go_wp2
    go_ret2
    exact ⟨rfl, HB.out⟩
/-- Where the first ':' stands, or -1. -/
def idxC (s : ByteArray) : Int := Lib.indexByte s.data.toList 58
theorem idxC_some {s : ByteArray} {i : Nat} (h : idxC s = (i : Int)) : i < s.size ∧ at8 s i = 58 ∧ ∀ j, j < i → at8 s j ≠ 58 := by
  obtain ⟨h1, h2⟩ := Lib.indexByte_some h
  have hi : i < s.data.toList.length := (List.getElem?_eq_some_iff.1 h1).1
  rw [len_data] at hi
  refine ⟨hi, by unfold at8; rw [List.getD, h1]; rfl, fun j hj he => h2 j hj ?_⟩
  have hj' : j < s.data.toList.length := by rw [len_data]; omega
  unfold at8 at he
  rw [List.getD, List.getElem?_eq_getElem hj'] at he
  rw [List.getElem?_eq_getElem hj']
  simpa using he
theorem idxC_none {s : ByteArray} (h : idxC s = -1) : ∀ j, j < s.size → at8 s j ≠ 58 := by
  intro j hj he
  have hj' : j < s.data.toList.length := by rw [len_data]; omega
  refine Lib.indexByte_none h j ?_
  unfold at8 at he
  rw [List.getD, List.getElem?_eq_getElem hj'] at he
  rw [List.getElem?_eq_getElem hj']
  simpa using he
theorem idxC_cases (s : ByteArray) : idxC s = -1 ∨ ∃ i : Nat, idxC s = (i : Int) ∧ i < s.size := by
  have h := Lib.indexByte_ge s.data.toList 58
  by_cases h1 : idxC s = -1
  · exact .inl h1
  · right
    have h2 : -1 ≤ idxC s := h
    have h3 : idxC s = ((idxC s).toNat : Int) := by omega
    exact ⟨(idxC s).toNat, h3, (idxC_some h3).1⟩
theorem idxC_of {s : ByteArray} {i : Nat} (h1 : i < s.size) (h2 : at8 s i = 58) (h3 : ∀ j, j < i → at8 s j ≠ 58) : idxC s = (i : Int) := by
  rcases idxC_cases s with h | ⟨k, hk, _⟩
  · exact absurd h2 (idxC_none h i h1)
  · obtain ⟨g1, g2, g3⟩ := idxC_some hk
    rcases Nat.lt_trichotomy k i with h | h | h
    · exact absurd g2 (h3 k h)
    · rw [hk, h]
    · exact absurd h2 (g3 i h)
/-- What a line holds whose first ':' stands at i. -/
def cutF (s : ByteArray) (i : Nat) : Fd := (s.extract 0 i, trimB (s.extract (i + 1) s.size))
def readO (s : ByteArray) : Bool := decide (0 ≤ idxC s) && fieldQ (cutF s (idxC s).toNat)
def readF (s : ByteArray) : Fd := if readO s = true then cutF s (idxC s).toNat else fd0
theorem readO_none {s : ByteArray} (h : idxC s = -1) : readO s = false ∧ readF s = fd0 := by
  have h1 : readO s = false := by unfold readO; rw [h]; rfl
  exact ⟨h1, by unfold readF; rw [h1]; rfl⟩
theorem readO_some {s : ByteArray} {i : Nat} (h : idxC s = (i : Int)) : readO s = fieldQ (cutF s i) ∧ readF s = if fieldQ (cutF s i) = true then cutF s i else fd0 := by
  have h1 : readO s = fieldQ (cutF s i) := by unfold readO; rw [h]; simp
  refine ⟨h1, ?_⟩
  unfold readF; rw [h1, h]; rfl
theorem cutF_sizes (s : ByteArray) (i : Nat) (h : s.size ≤ maxLen) : (cutF s i).1.size ≤ maxLen ∧ (cutF s i).2.size ≤ maxLen := by
  constructor
  · show (s.extract 0 i).size ≤ _
    rw [ByteArray.size_extract]; omega
  · have h1 := trimB_size (s.extract (i + 1) s.size)
    rw [ByteArray.size_extract] at h1
    show (trimB _).size ≤ _
    omega
theorem cutF_big {s : ByteArray} {i : Nat} (h : 40 < i) (hi : i < s.size) : fieldQ (cutF s i) = false := by
  refine fieldQ_no1 ?_
  show ¬ ((s.extract 0 i).size : Int) ≤ 40
  rw [ByteArray.size_extract]; omega
set_option maxRecDepth 100000 in
set_option maxHeartbeats 1000000 in
theorem IndexByte_any (s : ByteArray) (c : Int) (w : World) :
    Calls Tryd.prog 128 #[.string s, .int .u8 c] w fun e w' => e = .returned (.int .i64 (Lib.indexByte s.data.toList c.toNat.toUInt8)) ∧ w' = w := by
  go_enter Tryd.func128, Tryd.ntmps128
  go_wp2
  rw [run_callFunc_extern Tryd.func146 (by kernel_rfl) (by kernel_rfl) (by kernel_rfl) (e := Extern.BytealgIndexByte.indexByte) (by kernel_rfl), Lib.run_indexByteString]
  simp only [Result.andThen]
  rw [Oper.upon_value]
  go_wp2
  go_ret
  exact ⟨rfl, rfl⟩
set_option maxRecDepth 100000 in
set_option maxHeartbeats 1000000 in
theorem Index1_any (s : ByteArray) (w : World) :
    Calls Tryd.prog 117 #[.string s, .string ⟨#[58]⟩] w fun e w' => e = .returned (.int .i64 (idxC s)) ∧ w' = w := by
  cases h : eqB ⟨#[58]⟩ s
  · have h1 : (([58] : List UInt8) == s.toList) = false := by
      rw [show ([58] : List UInt8) = (⟨#[58]⟩ : ByteArray).toList by rw [ByteArray.toList_eq]]
      exact h
    have HI := hideB2 (fun W => IndexByte_any s 58 W)
    clear h
    go_enter Tryd.func117, Tryd.ntmps117
    go_wp2_with (go_at_call 128; refine (HI.out _).mono ?_; rintro e w' ⟨rfl, rfl⟩)
    go_ret
    exact ⟨rfl, rfl⟩
  · have h1 : (([58] : List UInt8) == s.toList) = true := by
      rw [show ([58] : List UInt8) = (⟨#[58]⟩ : ByteArray).toList by rw [ByteArray.toList_eq]]
      exact h
    have HE := hideB2 (show idxC s = 0 by rw [← eqB_iff.1 h]; unfold idxC; simp [Lib.indexByte])
    clear h
    go_enter Tryd.func117, Tryd.ntmps117
    go_wp2
    go_ret
    exact ⟨ret_int HE.out, rfl⟩
set_option maxHeartbeats 1000000 in
theorem Cut0_none (s : ByteArray) (w : World) (hi : idxC s = -1) :
    Calls Tryd.prog 95 #[.string s, .string ⟨#[58]⟩] w fun e w' => e = .returned (.tuple #[.string s, .string ⟨#[]⟩, .bool false]) ∧ Below w.heap.size w w' := by
  have HI := hideB2 hi
  clear hi
  go_enter Tryd.func95, Tryd.ntmps95
  go_wp2_with (go_at_call 117; refine (Index1_any _ _).mono ?_; rintro e w' ⟨rfl, rfl⟩; rw [HI.out])
  go_ret3
  exact ⟨rfl, Below.refl _ _⟩
set_option maxHeartbeats 1000000 in
theorem Cut0_some (s : ByteArray) (i : Nat) (w : World) (hi : idxC s = (i : Int)) (hlt : i < s.size) (hs : s.size ≤ maxLen) :
    Calls Tryd.prog 95 #[.string s, .string ⟨#[58]⟩] w fun e w' => e = .returned (.tuple #[.string (s.extract 0 i), .string (s.extract (i + 1) s.size), .bool true]) ∧ Below w.heap.size w w' := by
  have HI := hideB2 hi
  unfold maxLen at hs
  clear hi
  have e1 : IntKind.i64.wrap ((i : Int) + 1) = (i : Int) + 1 := by rw [IntKind.wrap_i64]; omega
  have c0 : (0 : Int) ≤ (i : Int) := by omega
  have c1 : (i : Int) ≤ (s.size : Int) := by omega
  have c2 : (0 : Int) ≤ (i : Int) + 1 := by omega
  have c3 : (i : Int) + 1 ≤ (s.size : Int) := by omega
  go_enter Tryd.func95, Tryd.ntmps95
  go_wp2_with (go_at_call 117; refine (Index1_any _ _).mono ?_; rintro e w' ⟨rfl, rfl⟩; rw [HI.out])
  go_region
  go_wp2
  go_ret3
  exact ⟨rfl, (Below.refl _ _).drew⟩
set_option maxHeartbeats 1000000 in
theorem Cut_none (s : ByteArray) (w : World) (hi : idxC s = -1) :
    Calls Tryd.prog 72 #[.string s, .string ⟨#[58]⟩] w fun e w' => e = .returned (.tuple #[.string s, .string ⟨#[]⟩, .bool false]) ∧ Below w.heap.size w w' := by
  have HC := hideB2 (fun W => Cut0_none s W hi)
  clear hi
  go_enter Tryd.func72, Tryd.ntmps72
  go_wp2_with (go_at_call 95; refine (HC.out _).mono ?_; rintro e w' ⟨rfl, hb⟩)
  go_ret3
  exact ⟨rfl, hb⟩
set_option maxHeartbeats 1000000 in
theorem Cut_some (s : ByteArray) (i : Nat) (w : World) (hi : idxC s = (i : Int)) (hlt : i < s.size) (hs : s.size ≤ maxLen) :
    Calls Tryd.prog 72 #[.string s, .string ⟨#[58]⟩] w fun e w' => e = .returned (.tuple #[.string (s.extract 0 i), .string (s.extract (i + 1) s.size), .bool true]) ∧ Below w.heap.size w w' := by
  have HC := hideB2 (fun W => Cut0_some s i W hi hlt hs)
  clear hi
  generalize s.extract 0 i = x at *
  generalize s.extract (i + 1) s.size = y at *
  go_enter Tryd.func72, Tryd.ntmps72
  go_wp2_with (go_at_call 95; refine (HC.out _).mono ?_; rintro e w' ⟨rfl, hb⟩)
  go_ret3
  exact ⟨rfl, hb⟩
theorem Tryd.infoField : (Tryd.prog.info? 49).map (·.size) = some 2 := by kernel_rfl
theorem below_alloc' {B : Nat} {w0 w : World} (h : Below B w0 w) (hB : B ≤ w0.heap.size) (o : Obj) : Below B w0 (w.alloc o) := h.alloc (Nat.le_trans hB h.size) o
set_option maxHeartbeats 1000000 in
theorem ReadField_any (s : ByteArray) (w : World) (hs : s.size ≤ maxLen) :
    Calls Tryd.prog 34 #[.string s] w fun e w' => e = .returned (.tuple #[.agg #[.string (readF s).1, .string (readF s).2], .bool (readO s)]) ∧ Below w.heap.size w w' := by
  have HB1 := hideB2 (below_a1 w (.cells #[.string ⟨#[]⟩, .string ⟨#[]⟩] 49))
  have A1 := hideB2 (Blk.new w #[.string ⟨#[]⟩, .string ⟨#[]⟩] 49)
  rcases idxC_cases s with hi | ⟨i, hi, hlt⟩
  · obtain ⟨e1, e2⟩ := readO_none hi
    rw [e1, e2]
    have HC := hideB2 (fun W => Cut_none s W hi)
    have HT := hideB2 (fun W => Trim_any ⟨#[]⟩ W (by decide))
    clear hi e1 e2
    go_enter Tryd.func34, Tryd.ntmps34
    go_wp2_with fail
    refine (HC.out _).mono ?_
    rintro e w1 ⟨rfl, hb1⟩
    have A2 := A1.out.later hb1
    obtain ⟨p0, p1⟩ := A2.c2
    have f0 := A2.free 0
    have f1 := A2.free 1
    have hlt0 := A2.lt
    have HB := hideB2 (below_then HB1.out hb1)
    have HA2 := hideB2 A2
    clear hb1 A2
    go_wp2_with (go_at_call 73; refine (HT.out _).mono ?_; rintro e w' ⟨rfl, rfl⟩)
    refine bodyPost_ret (results_cellT rfl _ _ _ rfl ((HA2.out.set2 _ _).alloc _) Tryd.underlying49 Tryd.infoField) rfl ⟨rfl, ?_⟩
    exact below_alloc' (below_set2 HB.out (Nat.le_refl _) _ _) (Nat.le_refl _) _
  · obtain ⟨e1, e2⟩ := readO_some hi
    rw [e1, e2]
    have HC := hideB2 (fun W => Cut_some s i W hi hlt hs)
    have HT := hideB2 (fun W => Trim_any (s.extract (i + 1) s.size) W (by rw [ByteArray.size_extract]; omega))
    have hsz := cutF_sizes s i hs
    unfold cutF at hsz
    unfold cutF
    clear hi e1 e2
    generalize s.extract 0 i = d at *
    generalize s.extract (i + 1) s.size = y at *
    generalize trimB y = t at *
    simp only at hsz
    have HS := hideB2 hsz
    have HQ := hideB2 (fun W => FieldOk_any d t W hsz.1 hsz.2)
    clear hsz hs
    generalize fieldQ (d, t) = q at *
    go_enter Tryd.func34, Tryd.ntmps34
    go_wp2_with fail
    refine (HC.out _).mono ?_
    rintro e w1 ⟨rfl, hb1⟩
    have A2 := A1.out.later hb1
    have hlt0 := A2.lt
    have HB := hideB2 (below_then HB1.out hb1)
    have HA2 := hideB2 A2
    clear hb1 A2
    go_wp2_with (first | (go_at_call 73; refine (HT.out _).mono ?_; rintro e w' ⟨rfl, rfl⟩) | fail)
    have N2 := Blk.new w' #[.string d, .string t] 49
    refine (HQ.out _).mono ?_
    rintro e w2 ⟨rfl, hb2⟩
    have N3 := N2.later hb2
    have A3 := (HA2.out.alloc (.cells #[.string d, .string t] 49)).later hb2
    obtain ⟨p0, p1⟩ := A3.c2
    have f0 := A3.free 0
    have f1 := A3.free 1
    obtain ⟨q0, q1⟩ := N3.c2
    have HB3 := hideB2 (below_then (below_alloc' HB.out (Nat.le_refl _) (.cells #[.string d, .string t] 49)) hb2)
    have HA3 := hideB2 A3
    clear N2 N3 A3 hb2 HB HA2
    cases q
    · go_wp2
      refine bodyPost_ret (results_cellT rfl _ _ _ rfl (HA3.out.set2 _ _) Tryd.underlying49 Tryd.infoField) rfl ⟨rfl, ?_⟩
      exact below_set2 HB3.out (Nat.le_refl _) _ _
    · go_wp2
      refine bodyPost_ret (results_cellT rfl _ _ _ rfl (HA3.out.set2 _ _) Tryd.underlying49 Tryd.infoField) rfl ⟨rfl, ?_⟩
      exact below_set2 HB3.out (Nat.le_refl _) _ _
end Go.Proofs.YtbdggopdhnlbfaaDoor
