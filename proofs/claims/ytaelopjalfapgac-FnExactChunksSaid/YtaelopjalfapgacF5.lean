/-
  Chapter 5: the first value of a name; a field out of its line. Both sides.
-/
import Derived.Test.YtaelopjalfapgacF3
import Derived.Lib.IndexLaws
import Derived.Lib.Bytealg
import Derived.Deep.DeepCutAuto
namespace Go.Proofs.Ytaelopjalfapgac
set_option linter.unusedVariables false
set_option linter.unusedSimpArgs false
open Go.RowKit
def getB (l : List Fd) (n : ByteArray) : ByteArray := (valuesL l n).getD 0 ⟨#[]⟩
def getO (l : List Fd) (n : ByteArray) : Bool := decide (0 < (valuesL l n).length)
/-- Where the first ':' stands, or -1. -/
def idxC (s : ByteArray) : Int := Lib.indexByte s.data.toList 58
theorem idxC_some {s : ByteArray} {i : Nat} (h : idxC s = (i : Int)) : i < s.size ∧ at8 s i = 58 ∧ ∀ j, j < i → at8 s j ≠ 58 := by
  obtain ⟨h1, h2⟩ := Lib.indexByte_some h
  have hi : i < s.data.toList.length := (List.getElem?_eq_some_iff.1 h1).1
  rw [len_data] at hi
  refine ⟨hi, by unfold at8; rw [List.getD, h1]; rfl, fun j hj he => h2 j hj ?_⟩
  have hj' : j < s.data.toList.length := by rw [len_data]; omega
  unfold at8 at he
  rw [List.getD, List.getElem?_eq_getElem hj'] at he
  rw [List.getElem?_eq_getElem hj']
  simpa using he
theorem idxC_none {s : ByteArray} (h : idxC s = -1) : ∀ j, j < s.size → at8 s j ≠ 58 := by
  intro j hj he
  have hj' : j < s.data.toList.length := by rw [len_data]; omega
  refine Lib.indexByte_none h j ?_
  unfold at8 at he
  rw [List.getD, List.getElem?_eq_getElem hj'] at he
  rw [List.getElem?_eq_getElem hj']
  simpa using he
theorem idxC_cases (s : ByteArray) : idxC s = -1 ∨ ∃ i : Nat, idxC s = (i : Int) ∧ i < s.size := by
  have h := Lib.indexByte_ge s.data.toList 58
  by_cases h1 : idxC s = -1
  · exact .inl h1
  · right
    have h2 : -1 ≤ idxC s := h
    have h3 : idxC s = ((idxC s).toNat : Int) := by omega
    exact ⟨(idxC s).toNat, h3, (idxC_some h3).1⟩
theorem idxC_of {s : ByteArray} {i : Nat} (h1 : i < s.size) (h2 : at8 s i = 58) (h3 : ∀ j, j < i → at8 s j ≠ 58) : idxC s = (i : Int) := by
  rcases idxC_cases s with h | ⟨k, hk, _⟩
  · exact absurd h2 (idxC_none h i h1)
  · obtain ⟨g1, g2, g3⟩ := idxC_some hk
    rcases Nat.lt_trichotomy k i with h | h | h
    · exact absurd g2 (h3 k h)
    · rw [hk, h]
    · exact absurd h2 (g3 i h)
/-- What a line holds whose first ':' stands at i. -/
def cutF (s : ByteArray) (i : Nat) : Fd := (s.extract 0 i, trimB (s.extract (i + 1) s.size))
def readO (s : ByteArray) : Bool := decide (0 ≤ idxC s) && fieldQ (cutF s (idxC s).toNat)
def readF (s : ByteArray) : Fd := if readO s = true then cutF s (idxC s).toNat else fd0
theorem readO_none {s : ByteArray} (h : idxC s = -1) : readO s = false ∧ readF s = fd0 := by
  have h1 : readO s = false := by unfold readO; rw [h]; rfl
  exact ⟨h1, by unfold readF; rw [h1]; rfl⟩
theorem readO_some {s : ByteArray} {i : Nat} (h : idxC s = (i : Int)) : readO s = fieldQ (cutF s i) ∧ readF s = if fieldQ (cutF s i) = true then cutF s i else fd0 := by
  have h1 : readO s = fieldQ (cutF s i) := by unfold readO; rw [h]; simp
  refine ⟨h1, ?_⟩
  unfold readF; rw [h1, h]; rfl
theorem cutF_sizes (s : ByteArray) (i : Nat) (h : s.size ≤ maxLen) : (cutF s i).1.size ≤ maxLen ∧ (cutF s i).2.size ≤ maxLen := by
  constructor
  · show (s.extract 0 i).size ≤ _
    rw [ByteArray.size_extract]; omega
  · have h1 := trimB_size (s.extract (i + 1) s.size)
    rw [ByteArray.size_extract] at h1
    show (trimB _).size ≤ _
    omega
theorem cutF_big {s : ByteArray} {i : Nat} (h : 40 < i) (hi : i < s.size) : fieldQ (cutF s i) = false := by
  refine fieldQ_no1 ?_
  show ¬ ((s.extract 0 i).size : Int) ≤ 40
  rw [ByteArray.size_extract]; omega
set_option maxRecDepth 100000 in
set_option maxHeartbeats 1000000 in
theorem IndexByte_any (s : ByteArray) (c : Int) (w : World) :
    Calls Try.prog 69 #[.string s, .int .u8 c] w fun e w' => e = .returned (.int .i64 (Lib.indexByte s.data.toList c.toNat.toUInt8)) ∧ w' = w := by
  go_enter Try.func69, Try.ntmps69
  go_wp2
  rw [run_callFunc_extern Try.func76 (by kernel_rfl) (by kernel_rfl) (by kernel_rfl) (e := Extern.BytealgIndexByte.indexByte) (by kernel_rfl), Lib.run_indexByteString]
  simp only [Result.andThen]
  rw [Oper.upon_value]
  go_wp2
  go_ret
  exact ⟨rfl, rfl⟩
set_option maxRecDepth 100000 in
set_option maxHeartbeats 1000000 in
theorem Index1_any (s : ByteArray) (w : World) :
    Calls Try.prog 63 #[.string s, .string ⟨#[58]⟩] w fun e w' => e = .returned (.int .i64 (idxC s)) ∧ w' = w := by
  cases h : eqB ⟨#[58]⟩ s
  · have h1 : (([58] : List UInt8) == s.toList) = false := by
      rw [show ([58] : List UInt8) = (⟨#[58]⟩ : ByteArray).toList by rw [ByteArray.toList_eq]]
      exact h
    have HI := hideB2 (fun W => IndexByte_any s 58 W)
    clear h
    go_enter Try.func63, Try.ntmps63
    go_wp2_with (go_at_call 69; refine (HI.out _).mono ?_; rintro e w' ⟨rfl, rfl⟩)
    go_ret
    exact ⟨rfl, rfl⟩
  · have h1 : (([58] : List UInt8) == s.toList) = true := by
      rw [show ([58] : List UInt8) = (⟨#[58]⟩ : ByteArray).toList by rw [ByteArray.toList_eq]]
      exact h
    have HE := hideB2 (show idxC s = 0 by rw [← eqB_iff.1 h]; unfold idxC; simp [Lib.indexByte])
    clear h
    go_enter Try.func63, Try.ntmps63
    go_wp2
    go_ret
    exact ⟨ret_int HE.out, rfl⟩
set_option maxHeartbeats 1000000 in
theorem Cut0_none (s : ByteArray) (w : World) (hi : idxC s = -1) :
    Calls Try.prog 53 #[.string s, .string ⟨#[58]⟩] w fun e w' => e = .returned (.tuple #[.string s, .string ⟨#[]⟩, .bool false]) ∧ Below w.heap.size w w' := by
  have HI := hideB2 hi
  clear hi
  go_enter Try.func53, Try.ntmps53
  go_wp2_with (go_at_call 63; refine (Index1_any _ _).mono ?_; rintro e w' ⟨rfl, rfl⟩; rw [HI.out])
  go_ret3
  exact ⟨rfl, Below.refl _ _⟩
set_option maxHeartbeats 1000000 in
theorem Cut0_some (s : ByteArray) (i : Nat) (w : World) (hi : idxC s = (i : Int)) (hlt : i < s.size) (hs : s.size ≤ maxLen) :
    Calls Try.prog 53 #[.string s, .string ⟨#[58]⟩] w fun e w' => e = .returned (.tuple #[.string (s.extract 0 i), .string (s.extract (i + 1) s.size), .bool true]) ∧ Below w.heap.size w w' := by
  have HI := hideB2 hi
  unfold maxLen at hs
  clear hi
  have e1 : IntKind.i64.wrap ((i : Int) + 1) = (i : Int) + 1 := by rw [IntKind.wrap_i64]; omega
  have c0 : (0 : Int) ≤ (i : Int) := by omega
  have c1 : (i : Int) ≤ (s.size : Int) := by omega
  have c2 : (0 : Int) ≤ (i : Int) + 1 := by omega
  have c3 : (i : Int) + 1 ≤ (s.size : Int) := by omega
  go_enter Try.func53, Try.ntmps53
  go_wp2_with (go_at_call 63; refine (Index1_any _ _).mono ?_; rintro e w' ⟨rfl, rfl⟩; rw [HI.out])
  go_region
  go_wp2
  go_ret3
  exact ⟨rfl, (Below.refl _ _).drew⟩
set_option maxHeartbeats 1000000 in
theorem Cut_none (s : ByteArray) (w : World) (hi : idxC s = -1) :
    Calls Try.prog 45 #[.string s, .string ⟨#[58]⟩] w fun e w' => e = .returned (.tuple #[.string s, .string ⟨#[]⟩, .bool false]) ∧ Below w.heap.size w w' := by
  have HC := hideB2 (fun W => Cut0_none s W hi)
  clear hi
  go_enter Try.func45, Try.ntmps45
  go_wp2_with (go_at_call 53; refine (HC.out _).mono ?_; rintro e w' ⟨rfl, hb⟩)
  go_ret3
  exact ⟨rfl, hb⟩
set_option maxHeartbeats 1000000 in
theorem Cut_some (s : ByteArray) (i : Nat) (w : World) (hi : idxC s = (i : Int)) (hlt : i < s.size) (hs : s.size ≤ maxLen) :
    Calls Try.prog 45 #[.string s, .string ⟨#[58]⟩] w fun e w' => e = .returned (.tuple #[.string (s.extract 0 i), .string (s.extract (i + 1) s.size), .bool true]) ∧ Below w.heap.size w w' := by
  have HC := hideB2 (fun W => Cut0_some s i W hi hlt hs)
  clear hi
  generalize s.extract 0 i = x at *
  generalize s.extract (i + 1) s.size = y at *
  go_enter Try.func45, Try.ntmps45
  go_wp2_with (go_at_call 53; refine (HC.out _).mono ?_; rintro e w' ⟨rfl, hb⟩)
  go_ret3
  exact ⟨rfl, hb⟩
theorem Try.infoField : (Try.prog.info? 51).map (·.size) = some 2 := by kernel_rfl
theorem below_alloc' {B : Nat} {w0 w : World} (h : Below B w0 w) (hB : B ≤ w0.heap.size) (o : Obj) : Below B w0 (w.alloc o) := h.alloc (Nat.le_trans hB h.size) o
set_option maxHeartbeats 1000000 in
theorem ReadField_any (s : ByteArray) (w : World) (hs : s.size ≤ maxLen) :
    Calls Try.prog 55 #[.string s] w fun e w' => e = .returned (.tuple #[.agg #[.string (readF s).1, .string (readF s).2], .bool (readO s)]) ∧ Below w.heap.size w w' := by
  have HB1 := hideB2 (below_a1 w (.cells #[.string ⟨#[]⟩, .string ⟨#[]⟩] 51))
  have A1 := hideB2 (Blk.new w #[.string ⟨#[]⟩, .string ⟨#[]⟩] 51)
  rcases idxC_cases s with hi | ⟨i, hi, hlt⟩
  · obtain ⟨e1, e2⟩ := readO_none hi
    rw [e1, e2]
    have HC := hideB2 (fun W => Cut_none s W hi)
    have HT := hideB2 (fun W => Trim_any ⟨#[]⟩ W (by decide))
    clear hi e1 e2
    go_enter Try.func55, Try.ntmps55
    go_wp2_with fail
    refine (HC.out _).mono ?_
    rintro e w1 ⟨rfl, hb1⟩
    have A2 := A1.out.later hb1
    obtain ⟨p0, p1⟩ := A2.c2
    have f0 := A2.free 0
    have f1 := A2.free 1
    have hlt0 := A2.lt
    have HB := hideB2 (below_then HB1.out hb1)
    have HA2 := hideB2 A2
    clear hb1 A2
    go_wp2_with (go_at_call 66; refine (HT.out _).mono ?_; rintro e w' ⟨rfl, rfl⟩)
    refine bodyPost_ret (results_cellT rfl _ _ _ rfl ((HA2.out.set2 _ _).alloc _) Try.underlying51 Try.infoField) rfl ⟨rfl, ?_⟩
    exact below_alloc' (below_set2 HB.out (Nat.le_refl _) _ _) (Nat.le_refl _) _
  · obtain ⟨e1, e2⟩ := readO_some hi
    rw [e1, e2]
    have HC := hideB2 (fun W => Cut_some s i W hi hlt hs)
    have HT := hideB2 (fun W => Trim_any (s.extract (i + 1) s.size) W (by rw [ByteArray.size_extract]; omega))
    have hsz := cutF_sizes s i hs
    unfold cutF at hsz
    unfold cutF
    clear hi e1 e2
    generalize s.extract 0 i = d at *
    generalize s.extract (i + 1) s.size = y at *
    generalize trimB y = t at *
    simp only at hsz
    have HS := hideB2 hsz
    have HQ := hideB2 (fun W => FieldOk_any d t W hsz.1 hsz.2)
    clear hsz hs
    generalize fieldQ (d, t) = q at *
    go_enter Try.func55, Try.ntmps55
    go_wp2_with fail
    refine (HC.out _).mono ?_
    rintro e w1 ⟨rfl, hb1⟩
    have A2 := A1.out.later hb1
    have hlt0 := A2.lt
    have HB := hideB2 (below_then HB1.out hb1)
    have HA2 := hideB2 A2
    clear hb1 A2
    go_wp2_with (first | (go_at_call 66; refine (HT.out _).mono ?_; rintro e w' ⟨rfl, rfl⟩) | fail)
    have N2 := Blk.new w' #[.string d, .string t] 51
    refine (HQ.out _).mono ?_
    rintro e w2 ⟨rfl, hb2⟩
    have N3 := N2.later hb2
    have A3 := (HA2.out.alloc (.cells #[.string d, .string t] 51)).later hb2
    obtain ⟨p0, p1⟩ := A3.c2
    have f0 := A3.free 0
    have f1 := A3.free 1
    obtain ⟨q0, q1⟩ := N3.c2
    have HB3 := hideB2 (below_then (below_alloc' HB.out (Nat.le_refl _) (.cells #[.string d, .string t] 51)) hb2)
    have HA3 := hideB2 A3
    clear N2 N3 A3 hb2 HB HA2
    cases q
    · go_wp2
      refine bodyPost_ret (results_cellT rfl _ _ _ rfl (HA3.out.set2 _ _) Try.underlying51 Try.infoField) rfl ⟨rfl, ?_⟩
      exact below_set2 HB3.out (Nat.le_refl _) _ _
    · go_wp2
      refine bodyPost_ret (results_cellT rfl _ _ _ rfl (HA3.out.set2 _ _) Try.underlying51 Try.infoField) rfl ⟨rfl, ?_⟩
      exact below_set2 HB3.out (Nat.le_refl _) _ _
set_option maxHeartbeats 2000000 in
theorem sReadField_any (s : ByteArray) (w : World) (hs : s.size ≤ maxLen) :
    Calls Try.prog 32 #[.string s] w fun e w' => e = .returned (.tuple #[.agg #[.string (readF s).1, .string (readF s).2], .bool (readO s)]) ∧ Below w.heap.size w w' := by
  have HB1 := hideB2 (below_a1 w (.cells #[.string ⟨#[]⟩, .string ⟨#[]⟩] 51))
  have A1 := Blk.new w #[.string ⟨#[]⟩, .string ⟨#[]⟩] 51
  have hs' := hs
  unfold maxLen at hs'
  generalize hR : readF s = R
  generalize hO : readO s = O
  have HR := hideB2 hR
  have HO := hideB2 hO
  clear hR hO
  go_enter Try.func32, Try.ntmps32
  go_wp2
  generalize hW : w.alloc (.cells #[.string ⟨#[]⟩, .string ⟨#[]⟩] 51) = W1 at *
  clear hW
  obtain ⟨p0, p1⟩ := A1.c2
  have f0 := A1.free 0
  have f1 := A1.free 1
  have hlt0 := A1.lt
  have HA1 := hideB2 A1
  clear A1
  go_loop [4] (fun i => ∃ k : Nat, k ≤ s.size ∧ k ≤ 41 ∧ i = .int .i64 k ∧ ∀ j, j < k → at8 s j ≠ 58) (fun i => s.size - (intOf i).toNat)
  case atStart => exact ⟨0, Nat.zero_le _, by omega, rfl, fun j hj => by omega⟩
  case round =>
    obtain ⟨k, hk, hk41, rfl, hall⟩ := hrel
    have Hall := hideB2 hall
    clear hall
    by_cases hlt : k < s.size ∧ k ≤ 40
    · obtain ⟨hlt, hk40⟩ := hlt
      have hat : s[k] = at8 s k := at8_eq s k hlt
      by_cases hc : at8 s k = 58
      · have hi := idxC_of hlt hc Hall.out
        obtain ⟨e1, e2⟩ := readO_some hi
        have h58 : ((s[k].toNat : Int) != 58) = false := by rw [hat, hc]; rfl
        have HE1 := hideB2 (HO.out.symm.trans e1)
        have HE2 := hideB2 (HR.out.symm.trans e2)
        have HT := hideB2 (fun W => sTrim_any (s.extract (k + 1) s.size) W (by rw [ByteArray.size_extract]; omega))
        have hsz := cutF_sizes s k hs
        clear e1 e2 hi hat hc Hall
        unfold cutF at HE1 HE2 hsz
        have c1 : IntKind.i64.wrap ((k : Int) + 1) = (k : Int) + 1 := by rw [IntKind.wrap_i64]; omega
        have c2 : (k : Int) + 1 ≤ (s.size : Int) := by omega
        have c3 : (0 : Int) ≤ (k : Int) + 1 := by omega
        go_wp2
        go_cut [5] (fun c wc => c = .pointer (some ⟨W1.heap.size, 0, none⟩) ∧ Below W1.heap.size W1 wc ∧ Blk wc W1.heap.size #[.string (s.extract 0 k), .string (trimB (s.extract (k + 1) s.size))] 51)
        case first =>
          go_region_with (go_at_call 42; refine (HT.out _).mono ?_; rintro e w' ⟨rfl, rfl⟩)
          all_goals
            go_wp2_with fail
            go_meet
            refine ⟨rfl, ?_, ?_⟩
            · exact (below_a1 W1 _).drew
            · exact (Blk.new W1 _ _).drew
        case rest =>
          rename_i w3
          obtain ⟨rfl, hb3, N3⟩ := hcut
          generalize s.extract 0 k = d at *
          generalize trimB (s.extract (k + 1) s.size) = t at *
          have HQ := hideB2 (fun W => sFieldOk_any d t W hsz.1 hsz.2)
          have A3 := HA1.out.later hb3
          obtain ⟨q0, q1⟩ := N3.c2
          have HN3 := hideB2 N3
          have HA3 := hideB2 A3
          have HB3 := hideB2 (below_then HB1.out hb3)
          clear hsz N3 A3 hb3 HA1 p0 p1 f0 f1
          generalize fieldQ (d, t) = q at *
          go_wp2_with fail
          refine (HQ.out _).mono ?_
          rintro e w4 ⟨rfl, hb4⟩
          clear q0 q1
          obtain ⟨q0, q1⟩ := (HN3.out.later hb4).c2
          have A4 := HA3.out.later hb4
          obtain ⟨p0, p1⟩ := A4.c2
          have f0 := A4.free 0
          have f1 := A4.free 1
          have HA4 := hideB2 A4
          have HB4 := hideB2 (below_then HB3.out hb4)
          clear A4 hb4 HN3 HA3 HB3
          cases q
          · obtain rfl : O = false := HE1.out
            obtain rfl : R = fd0 := HE2.out
            go_wp2
            refine bodyPost_ret (results_cellT rfl _ _ _ rfl (HA4.out.set2 _ _) Try.underlying51 Try.infoField) rfl ⟨rfl, ?_⟩
            exact below_set2 HB4.out (Nat.le_refl _) _ _
          · obtain rfl : O = true := HE1.out
            obtain rfl : R = (d, t) := HE2.out
            go_wp2
            refine bodyPost_ret (results_cellT rfl _ _ _ rfl (HA4.out.set2 _ _) Try.underlying51 Try.infoField) rfl ⟨rfl, ?_⟩
            exact below_set2 HB4.out (Nat.le_refl _) _ _
      · have h58 : ((s[k].toNat : Int) != 58) = true := by
          rw [bne_iff_ne, hat]
          intro hh
          exact hc (UInt8.toNat_inj.1 (by have : (at8 s k).toNat = 58 := by omega
                                          rw [this]; rfl))
        have Hc := hideB2 hc
        clear hat hc
        go_wp2
        go_round
        case rel => exact ⟨k + 1, by omega, by omega, by go_num, all_succ Hall.out Hc.out⟩
        case measure => simp [intOf]; omega
    · have HF := hideB2 (show O = false ∧ R = fd0 by
        rcases idxC_cases s with hi | ⟨i, hi, hil⟩
        · obtain ⟨e1, e2⟩ := readO_none hi
          exact ⟨HO.out.symm.trans e1, HR.out.symm.trans e2⟩
        · obtain ⟨g1, g2, g3⟩ := idxC_some hi
          have hki : k ≤ i := by
            rcases Nat.lt_or_ge i k with h | h
            · exact absurd g2 (Hall.out i h)
            · exact h
          obtain ⟨e1, e2⟩ := readO_some hi
          have hbig := cutF_big (s := s) (i := i) (by omega) hil
          rw [hbig] at e1 e2
          exact ⟨HO.out.symm.trans e1, HR.out.symm.trans e2⟩)
      obtain ⟨rfl, rfl⟩ := HF.out
      rcases Nat.lt_or_ge k s.size with h | h
      · have hk40 : ¬ (k : Int) ≤ 40 := by omega
        clear hlt Hall HF
        go_wp2
        refine bodyPost_ret (results_cellT rfl _ _ _ rfl (HA1.out.set2 _ _) Try.underlying51 Try.infoField) rfl ⟨rfl, ?_⟩
        exact below_set2 HB1.out (Nat.le_refl _) _ _
      · have hk40 : ¬ (k : Int) < (s.size : Int) := by omega
        clear hlt Hall HF
        go_wp2
        refine bodyPost_ret (results_cellT rfl _ _ _ rfl (HA1.out.set2 _ _) Try.underlying51 Try.infoField) rfl ⟨rfl, ?_⟩
        exact below_set2 HB1.out (Nat.le_refl _) _ _
end Go.Proofs.Ytaelopjalfapgac
