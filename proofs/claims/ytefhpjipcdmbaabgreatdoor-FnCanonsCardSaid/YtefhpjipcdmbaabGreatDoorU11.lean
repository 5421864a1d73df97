/-
  Chapter 7: an address read; lists, and the program's parts.
-/
import Derived.Test.YtefhpjipcdmbaabGreatDoorU10
import Derived.Test.YtefhpjipcdmbaabGreatDoorW5
import Derived.Test.YtefhpjipcdmbaabGreatDoorW1b
import Derived.Test.YtefhpjipcdmbaabGreatDoorBK2
import Derived.Test.YtefhpjipcdmbaabGreatDoorSIl
import Derived.Deep.DeepCutAuto
namespace Go.Proofs.YtefhpjipcdmbaabGreatDoor
set_option linter.unusedVariables false
set_option linter.unusedSimpArgs false
open Go.RowKit
/-- An address. -/
structure Ur where
  ho : ByteArray
  pa : ByteArray
  qu : ByteArray
  po : Int
  hq : Bool
def ur0 : Ur := ⟨⟨#[]⟩, ⟨#[]⟩, ⟨#[]⟩, 0, false⟩
def valU (u : Ur) : Value := .agg #[.string u.ho, .int .i64 u.po, .string u.pa, .string u.qu, .bool u.hq]
def urQ (u : Ur) : Bool := urlQ u.ho u.pa u.qu u.po u.hq
/-- What stands behind the first byte c, and is there one? -/
def bhS (c : UInt8) (s : ByteArray) : ByteArray := if idxS c s < 0 then ⟨#[]⟩ else s.extract ((idxS c s).toNat + 1) s.size
def hasS (c : UInt8) (s : ByteArray) : Bool := decide (0 ≤ idxS c s)
theorem cut_none {c : UInt8} {s : ByteArray} (h : idxS c s = -1) : uptS c s = s ∧ bhS c s = ⟨#[]⟩ ∧ hasS c s = false := by
  refine ⟨uptS_none h, ?_, ?_⟩
  · unfold bhS; rw [h]; rfl
  · unfold hasS; rw [h]; rfl
theorem cut_some {c : UInt8} {s : ByteArray} {i : Nat} (h : idxS c s = (i : Int)) : uptS c s = s.extract 0 i ∧ bhS c s = s.extract (i + 1) s.size ∧ hasS c s = true := by
  refine ⟨uptS_some h, ?_, ?_⟩
  · unfold bhS; rw [h, if_neg (by omega), Int.toNat_natCast]
  · unfold hasS; rw [h, decide_eq_true (by omega)]
theorem uptS_size (c : UInt8) (s : ByteArray) : (uptS c s).size ≤ s.size := by
  rcases idxS_cases c s with h | ⟨i, h, hi⟩
  · rw [uptS_none h]; exact Nat.le_refl _
  · rw [uptS_some h, ByteArray.size_extract]; omega
theorem bhS_size (c : UInt8) (s : ByteArray) : (bhS c s).size ≤ s.size := by
  rcases idxS_cases c s with h | ⟨i, h, hi⟩
  · rw [(cut_none h).2.1]; show (0 : Nat) ≤ _; omega
  · rw [(cut_some h).2.1, ByteArray.size_extract]; omega
/-- The authority: up to the first / or ?. -/
def auU (r : ByteArray) : ByteArray := uptS 47 (uptS 63 r)
theorem ext_all (s : ByteArray) : s.extract 0 s.size = s := by
  apply bytes_ext
  rw [Lib.extract_data, List.drop_zero]
  exact List.take_of_length_le (by rw [len_data]; omega)
theorem auU_size (r : ByteArray) : (auU r).size ≤ r.size := Nat.le_trans (uptS_size _ _) (uptS_size _ _)
theorem auU_at {r : ByteArray} {i : Nat} (hi : i < r.size) (h0 : ∀ j, j < i → at8 r j ≠ 47 ∧ at8 r j ≠ 63) (h : at8 r i = 47 ∨ at8 r i = 63) : auU r = r.extract 0 i := by
  have pre : ∀ k, i ≤ k → k ≤ r.size → ∀ j, j < i → at8 (r.extract 0 k) j = at8 r j := fun k hk hk2 j hj => by
    rw [at8_extS hk2 (by omega), Nat.zero_add]
  unfold auU
  rcases h with h | h
  · rcases idxS_cases 63 r with h1 | ⟨k, h1, hk⟩
    · rw [uptS_none h1]
      exact uptS_some (idxS_of hi h (fun j hj => (h0 j hj).1))
    · obtain ⟨g1, g2, g3⟩ := idxS_some h1
      have hik : i < k := by
        rcases Nat.lt_trichotomy k i with h2 | h2 | h2
        · exact absurd g2 (h0 k h2).2
        · subst h2; rw [h] at g2; cases g2
        · exact h2
      rw [uptS_some h1]
      have e1 : idxS 47 (r.extract 0 k) = (i : Int) := by
        refine idxS_of (by rw [ByteArray.size_extract]; omega) ?_ ?_
        · rw [at8_extS (by omega) (by omega), Nat.zero_add]; exact h
        · intro j hj; rw [pre k (by omega) (by omega) j hj]; exact (h0 j hj).1
      rw [uptS_some e1, ByteArray.extract_extract]
      congr 1; omega
  · rw [uptS_some (idxS_of hi h (fun j hj => (h0 j hj).2))]
    refine (uptS_none (idxS_miss ?_))
    intro j hj
    have hj2 : j < i := by rw [ByteArray.size_extract] at hj; omega
    rw [pre i (Nat.le_refl _) (by omega) j hj2]
    exact (h0 j hj2).1
theorem auU_none {r : ByteArray} (h0 : ∀ j, j < r.size → at8 r j ≠ 47 ∧ at8 r j ≠ 63) : auU r = r := by
  unfold auU
  rw [uptS_none (idxS_miss (fun j hj => (h0 j hj).2))]
  exact uptS_none (idxS_miss (fun j hj => (h0 j hj).1))
theorem auU_no (r : ByteArray) : idxS 47 (auU r) = -1 ∧ idxS 63 (auU r) = -1 := by
  have key : ∀ (c : UInt8) (s : ByteArray), idxS c (uptS c s) = -1 := by
    intro c s
    rcases idxS_cases c s with h | ⟨i, h, hi⟩
    · rw [uptS_none h]; exact h
    · obtain ⟨g1, g2, g3⟩ := idxS_some h
      rw [uptS_some h]
      refine idxS_miss (fun j hj => ?_)
      have : j < i := by rw [ByteArray.size_extract] at hj; omega
      rw [at8_extS (by omega) (by omega), Nat.zero_add]
      exact g3 j this
  refine ⟨key 47 _, ?_⟩
  unfold auU
  have h63 := key 63 r
  generalize uptS 63 r = f at *
  rcases idxS_cases 47 f with h | ⟨i, h, hi⟩
  · rw [uptS_none h]; exact h63
  · rw [uptS_some h]
    refine idxS_miss (fun j hj => ?_)
    have h2 : j < i := by rw [ByteArray.size_extract] at hj; omega
    rw [at8_extS (by omega) (by omega), Nat.zero_add]
    exact idxS_none h63 j (by omega)
/-- The rest, and how it is cut at its ?. -/
def reU (r : ByteArray) : ByteArray := r.extract (auU r).size r.size
theorem idx_shift {c : UInt8} {r : ByteArray} {n : Nat} (hn : n ≤ r.size) (h0 : ∀ j, j < n → at8 r j ≠ c) : (idxS c (r.extract n r.size) = -1 ∧ idxS c r = -1) ∨ ∃ i : Nat, idxS c (r.extract n r.size) = (i : Int) ∧ idxS c r = ((n + i : Nat) : Int) ∧ n + i < r.size := by
  have hz : (r.extract n r.size).size = r.size - n := by rw [ByteArray.size_extract]; omega
  rcases idxS_cases c (r.extract n r.size) with h | ⟨i, h, hi⟩
  · left
    refine ⟨h, idxS_miss (fun j hj => ?_)⟩
    rcases Nat.lt_or_ge j n with h1 | h1
    · exact h0 j h1
    · have := idxS_none h (j - n) (by omega)
      rwa [at8_extS (Nat.le_refl _) (by omega), show n + (j - n) = j by omega] at this
  · right
    obtain ⟨g1, g2, g3⟩ := idxS_some h
    refine ⟨i, h, idxS_of (by omega) ?_ ?_, by omega⟩
    · rwa [at8_extS (Nat.le_refl _) (by omega)] at g2
    · intro j hj
      rcases Nat.lt_or_ge j n with h1 | h1
      · exact h0 j h1
      · have := g3 (j - n) (by omega)
        rwa [at8_extS (Nat.le_refl _) (by omega), show n + (j - n) = j by omega] at this
theorem ext_congr {s : ByteArray} {a b a' b' : Nat} (h1 : a = a') (h2 : b = b') : s.extract a b = s.extract a' b' := by rw [h1, h2]
theorem auU_pre (r : ByteArray) : auU r = r.extract 0 (auU r).size := by
  unfold auU
  rcases idxS_cases 63 r with h | ⟨i, h, hi⟩
  · rw [uptS_none h]
    rcases idxS_cases 47 r with g | ⟨k, g, hk⟩
    · rw [uptS_none g]; exact (ext_all r).symm
    · rw [uptS_some g, ByteArray.size_extract]; congr 1; omega
  · rw [uptS_some h]
    rcases idxS_cases 47 (r.extract 0 i) with g | ⟨k, g, hk⟩
    · rw [uptS_none g, ByteArray.size_extract]; congr 1; omega
    · have hz : (r.extract 0 i).size = i := by rw [ByteArray.size_extract]; omega
      rw [uptS_some g, ByteArray.extract_extract, ByteArray.size_extract]
      congr 1 <;> omega
theorem auU_head (r : ByteArray) : ∀ j, j < (auU r).size → at8 r j ≠ 63 := by
  intro j hj
  have h := idxS_none (auU_no r).2 j hj
  have hs := auU_size r
  have e : at8 (auU r) j = at8 r j := by
    have h1 := at8_extS (s := r) (a := 0) (b := (auU r).size) (j := j) hs (by omega)
    rw [← auU_pre r, Nat.zero_add] at h1
    exact h1
  rwa [e] at h
/-- Cut at ? the rest gives the path and the query as the whole does. -/
theorem reU_cut (r : ByteArray) : uptS 63 (reU r) = (uptS 63 r).extract (auU r).size (uptS 63 r).size ∧ bhS 63 (reU r) = bhS 63 r ∧ hasS 63 (reU r) = hasS 63 r ∧ (auU r).size ≤ (uptS 63 r).size := by
  have hs := auU_size r
  have hsu : (auU r).size ≤ (uptS 63 r).size := uptS_size _ _
  rcases idx_shift (c := 63) hs (auU_head r) with ⟨h1, h2⟩ | ⟨i, h1, h2, h3⟩
  · obtain ⟨a1, a2, a3⟩ := cut_none h1
    obtain ⟨b1, b2, b3⟩ := cut_none h2
    unfold reU
    rw [a1, a2, a3, b1, b2, b3]
    rw [b1] at hsu
    exact ⟨rfl, rfl, rfl, hsu⟩
  · obtain ⟨a1, a2, a3⟩ := cut_some h1
    obtain ⟨b1, b2, b3⟩ := cut_some h2
    have hz : (r.extract (auU r).size r.size).size = r.size - (auU r).size := by rw [ByteArray.size_extract]; omega
    unfold reU
    rw [a1, a2, a3, b1, b2, b3]
    rw [b1] at hsu
    refine ⟨?_, ?_, rfl, hsu⟩
    · rw [ByteArray.extract_extract, ByteArray.extract_extract]
      have e2 : (r.extract 0 ((auU r).size + i)).size = (auU r).size + i := by rw [ByteArray.size_extract]; omega
      rw [e2]
      exact ext_congr (by omega) (by omega)
    · rw [hz, ByteArray.extract_extract]
      exact ext_congr (by omega) (by omega)
/-- The parts as they stand. -/
def lsU (a e : ByteArray) : Ur := ⟨uptS 58 a, uptS 63 e, bhS 63 e, if hasS 58 a = true then rdecN (bhS 58 a) else 80, hasS 63 e⟩
def rootB : ByteArray := ⟨#[47]⟩
def rdK (r : ByteArray) : Ur := ⟨foldB (uptS 58 (auU r)), clnB (if (uptS 63 (reU r)).size = 0 then rootB else uptS 63 (reU r)), bhS 63 r, if hasS 58 (auU r) = true then rdecN (bhS 58 (auU r)) else 80, hasS 63 r⟩
def pre7 (s : ByteArray) : Bool := decide (7 ≤ s.size) && eqB (foldB (s.extract 0 7)) schB
def rdA (s : ByteArray) : Bool := targQ s && decide (idxS 35 s < 0) && pre7 s
def rdO (s : ByteArray) : Bool := rdA s && urQ (rdK (s.extract 7 s.size))
def rdU (s : ByteArray) : Ur := if rdO s = true then rdK (s.extract 7 s.size) else ur0
set_option maxHeartbeats 1000000 in
theorem CutS0_any (s : ByteArray) (c : UInt8) (w : World) (hs : s.size ≤ maxLen) :
    Calls Tryz.prog 72 #[.string s, .string ⟨#[c]⟩] w fun e w' => e = .returned (.tuple #[.string (uptS c s), .string (bhS c s), .bool (hasS c s)]) ∧ Below w.heap.size w w' := by
  unfold maxLen at hs
  have HI := hideB2 (fun W => Any.stringslite_Index_one Tryz.lays219 s c W)
  have hd1 : (⟨#[c]⟩ : ByteArray).size = 1 := rfl
  rcases idxS_cases c s with h | ⟨i, h, hi⟩
  · obtain ⟨a1, a2, a3⟩ := cut_none h
    rw [a1, a2, a3]
    rw [show Lib.indexByte s.data.toList c = -1 from h] at HI
    generalize (⟨#[c]⟩ : ByteArray) = D at *
    clear a1 a2 a3 h
    go_enter Tryz.func72, Tryz.ntmps72
    go_wp2_with (go_at_call 88; refine (HI.out _).mono ?_; rintro e w' ⟨rfl, rfl⟩)
    go_ret3
    exact ⟨rfl, Below.refl _ _⟩
  · obtain ⟨a1, a2, a3⟩ := cut_some h
    rw [a1, a2, a3]
    rw [show Lib.indexByte s.data.toList c = (i : Int) from h] at HI
    generalize (⟨#[c]⟩ : ByteArray) = D at *
    have e1 : IntKind.i64.wrap ((i : Int) + 1) = (i : Int) + 1 := by rw [IntKind.wrap_i64]; omega
    have c0 : (0 : Int) ≤ (i : Int) := by omega
    have c1 : (i : Int) ≤ (s.size : Int) := by omega
    have c2 : (0 : Int) ≤ (i : Int) + 1 := by omega
    have c3 : (i : Int) + 1 ≤ (s.size : Int) := by omega
    have hd2 : (D.size : Int) = 1 := by omega
    clear a1 a2 a3 h
    go_enter Tryz.func72, Tryz.ntmps72
    go_wp2_with (go_at_call 88; refine (HI.out _).mono ?_; rintro e w' ⟨rfl, rfl⟩)
    go_region
    go_wp2
    go_ret3
    exact ⟨rfl, (Below.refl _ _).drew⟩
set_option maxHeartbeats 1000000 in
theorem CutS_any (s : ByteArray) (c : UInt8) (w : World) (hs : s.size ≤ maxLen) :
    Calls Tryz.prog 38 #[.string s, .string ⟨#[c]⟩] w fun e w' => e = .returned (.tuple #[.string (uptS c s), .string (bhS c s), .bool (hasS c s)]) ∧ Below w.heap.size w w' := by
  have HC := hideB2 (fun W => CutS0_any s c W hs)
  generalize uptS c s = x at *
  generalize bhS c s = y at *
  generalize hasS c s = z at *
  generalize (⟨#[c]⟩ : ByteArray) = D at *
  go_enter Tryz.func38, Tryz.ntmps38
  go_wp2_with (go_at_call 72; refine (HC.out _).mono ?_; rintro e w' ⟨rfl, hb⟩)
  go_ret3
  exact ⟨rfl, hb⟩
theorem ret_ssU {a b x y : ByteArray} (h1 : x = a) (h2 : y = b) : Ending.returned (.tuple #[.string a, .string b]) = .returned (.tuple #[.string x, .string y]) := by rw [h1, h2]
set_option maxRecDepth 100000 in
set_option maxHeartbeats 4000000 in
theorem cutAuthority_any (r : ByteArray) (w : World) (hs : r.size ≤ 1048576) (hv : ∀ j, j < r.size → (at8 r j).toNat < 128) :
    Calls Tryz.prog 33 #[.string r] w fun e w' => e = .returned (.tuple #[.string (auU r), .string (reU r)]) ∧ Below w.heap.size w w' := by
  have HV := hideB2 hv
  clear hv
  unfold reU
  generalize hA : auU r = A
  have HA := hideB2 hA
  clear hA
  have HI := hideB2 (fun k => (below_a1 w (.stringIter r k) : Below w.heap.size w (w.iter r k)))
  go_enter Tryz.func33, Tryz.ntmps33
  go_wp2
  go_loopg [8, 9] r.size (fun g _ _ wx => ∃ i : Nat, i + g = r.size ∧ wx = w.iter r i ∧ ∀ j, j < i → at8 r j ≠ 47 ∧ at8 r j ≠ 63)
  case atStart => exact ⟨0, by omega, rfl, fun j hj => by omega⟩
  case round =>
    obtain ⟨i, hig, rfl, hall⟩ := hrel
    have HP := hideB2 hall
    clear hall
    cases gk with
    | zero =>
      obtain rfl : i = r.size := by omega
      have hnx := run_next_end (P := Tryz.prog) w r r.size
      have HF := hideB2 (show A = r by rw [← HA.out]; exact auU_none (fun j hj => HP.out j hj))
      have HF2 := hideB2 (show r.extract A.size r.size = ⟨#[]⟩ by rw [HF.out]; exact size_nil (by rw [ByteArray.size_extract]; omega))
      go_wp2
      go_ret2
      exact ⟨ret_ssU HF.out HF2.out, HI.out _⟩
    | succ g =>
      have hi : i < r.size := by omega
      have hat : r[i] = at8 r i := at8_eq r i hi
      have ha : (r[i]).toNat < 128 := by rw [hat]; exact HV.out i hi
      have hnx := fun ty => run_next_ascii (P := Tryz.prog) w r i ty hi ha
      have q47 : ((r[i].toNat : Int) == 47) = (at8 r i == 47) := by rw [hat]; exact u8_beq _ 47
      have q63 : ((r[i].toNat : Int) == 63) = (at8 r i == 63) := by rw [hat]; exact u8_beq _ 63
      clear hat ha
      have c1 : (i : Int) ≤ (r.size : Int) := by omega
      have c0 : (0 : Int) ≤ (i : Int) := by omega
      cases h47 : (at8 r i == 47)
      · rw [h47] at q47
        cases h63 : (at8 r i == 63)
        · rw [h63] at q63
          have HQ := hideB2 (show at8 r i ≠ 47 ∧ at8 r i ≠ 63 from ⟨beq_eq_false_iff_ne.1 h47, beq_eq_false_iff_ne.1 h63⟩)
          clear h47 h63
          go_wp2
          go_roundg g
          case measure => omega
          case rel => exact ⟨i + 1, by omega, rfl, all_succ HP.out HQ.out⟩
        · rw [h63] at q63
          have HF := hideB2 (show A = r.extract 0 i by rw [← HA.out]; exact auU_at hi HP.out (.inr (beq_iff_eq.1 h63)))
          have hz : A.size = i := by rw [HF.out, ByteArray.size_extract]; omega
          have HZ := hideB2 (show r.extract A.size r.size = r.extract i r.size by rw [hz])
          clear h47 h63 hz
          go_wp2
          go_region
          go_wp2
          go_ret2
          exact ⟨ret_ssU HF.out HZ.out, (HI.out _).drew⟩
      · rw [h47] at q47
        have HF := hideB2 (show A = r.extract 0 i by rw [← HA.out]; exact auU_at hi HP.out (.inl (beq_iff_eq.1 h47)))
        have hz : A.size = i := by rw [HF.out, ByteArray.size_extract]; omega
        have HZ := hideB2 (show r.extract A.size r.size = r.extract i r.size by rw [hz])
        clear h47 hz
        go_wp2
        go_region
        go_wp2
        go_ret2
        exact ⟨ret_ssU HF.out HZ.out, (HI.out _).drew⟩
end Go.Proofs.YtefhpjipcdmbaabGreatDoor
