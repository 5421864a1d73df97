/-
  Chapter 8: where a head ends; both sides.
-/
import Derived.Test.YtffjpidjhcnnmaaR1
import Derived.Test.YtffjpidjhcnnmaaB0
import Derived.Test.YtffjpidjhcnnmaaHS
import Derived.Test.YtffjpidjhcnnmaaSIx
import Derived.Lib.IndexLaws
namespace Go.Proofs.Ytffjpidjhcnnmaa
set_option linter.unusedVariables false
set_option linter.unusedSimpArgs false
open Go.RowKit
theorem ret_sb8 {s t : ByteArray} {a b : Bool} (h : t = s) (h' : b = a) : Ending.returned (.tuple #[.string s, .bool a]) = .returned (.tuple #[.string t, .bool b]) := by rw [h, h']
theorem headPB_yes {b : ByteArray} (h : 0 ≤ hdI b) : headPB b = b.extract 0 (hdN b) := by unfold headPB; rw [if_pos h]
theorem headPB_no {b : ByteArray} (h : ¬ 0 ≤ hdI b) : headPB b = ⟨#[]⟩ := by unfold headPB; rw [if_neg h]
theorem payB_yes {b : ByteArray} (h : 0 ≤ hdI b) : payB b = b.extract (hdN b) b.size := by unfold payB; rw [if_pos h]
theorem payB_no {b : ByteArray} (h : ¬ 0 ≤ hdI b) : payB b = ⟨#[]⟩ := by unfold payB; rw [if_neg h]
set_option maxHeartbeats 1000000 in
theorem cutHead_any (b : ByteArray) (w : World) (hs : b.size ≤ 1048576) (hM : MaxL w) :
    Calls Try.prog 10 #[.string b] w fun e w' => e = .returned (.tuple #[.string (headPB b), .string (payB b), .bool (hdO b)]) ∧ ∃ n, w' = w.drewN n := by
  obtain ⟨m, hm⟩ := hM
  have HI := hideB2 (Any.strings_Index Try.lays143 b ⟨#[13, 10, 13, 10]⟩ m w (by omega) hm)
  have HE := hideB2 (show Lib.index b.data.toList (⟨#[13, 10, 13, 10]⟩ : ByteArray).data.toList = hdI b from rfl)
  rw [HE.out] at HI
  clear hm HE
  by_cases h : 0 ≤ hdI b
  · obtain ⟨r1, r2, r3⟩ := hdI_room h
    rw [headPB_yes h, payB_yes h, show hdO b = true from decide_eq_true h]
    rw [r2] at HI
    generalize hdN b = n at *
    obtain ⟨j, rfl⟩ : ∃ j, n = j + 4 := ⟨n - 4, by omega⟩
    simp only [Nat.add_sub_cancel] at HI
    have e1 : IntKind.i64.wrap ((j : Int) + 4) = (j : Int) + 4 := by rw [IntKind.wrap_i64]; omega
    have c0 : ¬ (j : Int) < 0 := by omega
    have c1 : (0 : Int) ≤ (j : Int) + 4 := by omega
    have c2 : (j : Int) + 4 ≤ (b.size : Int) := by omega
    have n1 : ((j : Int) + 4).toNat = j + 4 := by omega
    clear h r2
    go_enter Try.func10, Try.ntmps10
    go_wp2_with fail
    refine HI.out.mono ?_
    rintro e w1 ⟨rfl, rfl⟩
    go_wp2
    go_region
    go_wp2
    go_ret3
    exact ⟨rfl, ⟨_, rfl⟩⟩
  · have hn := hdI_neg h
    rw [headPB_no h, payB_no h, show hdO b = false from decide_eq_false h]
    rw [hn] at HI
    clear hn h
    go_enter Try.func10, Try.ntmps10
    go_wp2_with fail
    refine HI.out.mono ?_
    rintro e w1 ⟨rfl, rfl⟩
    go_wp2
    go_ret3
    exact ⟨rfl, ⟨0, rfl⟩⟩
theorem drewN_below (w : World) (n : Nat) : Below w.heap.size w (w.drewN n) := ⟨rfl, rfl, rfl, Nat.le_refl _, fun _ _ => rfl⟩
set_option maxHeartbeats 1000000 in
theorem HeadPart_any (b : ByteArray) (w : World) (hs : b.size ≤ 1048576) (hM : MaxL w) :
    Calls Try.prog 6 #[.string b] w fun e w' => e = .returned (.tuple #[.string (headPB b), .bool (hdO b)]) ∧ Below w.heap.size w w' := by
  have HC := hideB2 (cutHead_any b w hs hM)
  generalize headPB b = h at *
  generalize payB b = p at *
  generalize hdO b = o at *
  clear hM
  go_enter Try.func6, Try.ntmps6
  go_wp2_with fail
  refine HC.out.mono ?_
  rintro e w1 ⟨rfl, n, rfl⟩
  go_wp2
  go_ret2
  exact ⟨rfl, drewN_below _ _⟩
set_option maxHeartbeats 1000000 in
theorem Payload_any (b : ByteArray) (w : World) (hs : b.size ≤ 1048576) (hM : MaxL w) :
    Calls Try.prog 8 #[.string b] w fun e w' => e = .returned (.tuple #[.string (payB b), .bool (hdO b)]) ∧ Below w.heap.size w w' := by
  have HC := hideB2 (cutHead_any b w hs hM)
  generalize headPB b = h at *
  generalize payB b = p at *
  generalize hdO b = o at *
  clear hM
  go_enter Try.func8, Try.ntmps8
  go_wp2_with fail
  refine HC.out.mono ?_
  rintro e w1 ⟨rfl, n, rfl⟩
  go_wp2
  go_ret2
  exact ⟨rfl, drewN_below _ _⟩
/-- The four bytes stand at k. -/
theorem occ_iff (b : ByteArray) (k : Nat) (hk : k + 4 ≤ b.size) : Lib.occAt b.data.toList crlf2 k = eqB (b.extract k (k + 4)) ⟨#[13, 10, 13, 10]⟩ := by
  unfold Lib.occAt eqB
  rw [ByteArray.toList_eq, ByteArray.toList_eq, extract_list]
  have h1 : ((b.data.toList.take (k + 4)).drop k) = (b.data.toList.drop k).take 4 := by rw [List.drop_take]; congr 1; omega
  rw [h1]
  have h2 : 4 ≤ (b.data.toList.drop k).length := by rw [List.length_drop, len_data]; omega
  generalize b.data.toList.drop k = l at *
  match l, h2 with
  | a0 :: a1 :: a2 :: a3 :: r, _ =>
    rw [Bool.eq_iff_iff]
    simp [crlf2, List.isPrefixOf]
    constructor
    · rintro ⟨h1, h2, h3, h4⟩; exact ⟨h1.symm, h2.symm, h3.symm, h4.symm⟩
    · rintro ⟨h1, h2, h3, h4⟩; exact ⟨h1.symm, h2.symm, h3.symm, h4.symm⟩
theorem occ_first (b : ByteArray) (k : Nat) (hk : k + 4 ≤ b.size) (h : at8 b k ≠ 13) : Lib.occAt b.data.toList crlf2 k = false := by
  rw [occ_iff b k hk]
  cases hh : eqB (b.extract k (k + 4)) ⟨#[13, 10, 13, 10]⟩
  · rfl
  · exfalso
    apply h
    have e := congrArg (fun x : ByteArray => x.data.toList) (eqB_iff.1 hh)
    simp only at e
    rw [extract_list] at e
    have e2 := congrArg (fun l : List UInt8 => l.getD 0 0) e
    simp only [List.getD, List.getElem?_drop, List.getElem?_take] at e2
    rw [if_pos (by omega)] at e2
    simpa [at8, List.getD] using e2
set_option maxHeartbeats 2000000 in
theorem l8split_any (b : ByteArray) (w : World) (hs : b.size ≤ 1048576) :
    Calls Try.prog 9 #[.string b] w fun e w' => e = .returned (.int .i64 (if 0 ≤ hdI b then (hdN b : Int) else -1)) ∧ ∃ n, w' = w.drewN n := by
  generalize hR : (if 0 ≤ hdI b then (hdN b : Int) else -1) = R
  have HR := hideB2 hR
  clear hR
  go_enter Try.func9, Try.ntmps9
  go_wp2
  go_loopw [3] (fun i wr => ∃ k : Nat, k ≤ b.size ∧ i = .int .i64 k ∧ Lib.NoOcc b.data.toList crlf2 k ∧ ∃ n, wr = w.drewN n) (fun i _ => b.size - (intOf i).toNat)
  case atStart => exact ⟨0, Nat.zero_le _, rfl, Lib.NoOcc.zero _ _, 0, rfl⟩
  case round =>
    obtain ⟨k, hk, rfl, hno, n, rfl⟩ := hrel
    have e4 : IntKind.i64.wrap ((k : Int) + 4) = (k : Int) + 4 := by rw [IntKind.wrap_i64]; omega
    have e1 : IntKind.i64.wrap ((k : Int) + 1) = (k : Int) + 1 := by rw [IntKind.wrap_i64]; omega
    by_cases hlt : k + 4 ≤ b.size
    · have hat : b[k] = at8 b k := at8_eq b k (by omega)
      have c1 : (k : Int) + 4 ≤ (b.size : Int) := by omega
      have c0 : (k : Int) ≤ (k : Int) + 4 := by omega
      have c2 : ((k : Int) + 4).toNat = k + 4 := by omega
      have HO := hideB2 (occ_iff b k hlt)
      by_cases h13 : at8 b k = 13
      · have hb : ((b[k].toNat : Int) == 13) = true := by rw [hat, h13]; rfl
        unfold eqB at HO
        cases hq : ((b.extract k (k + 4)).toList == [13, 10, 13, 10])
        · have hno' := hideB2 (hno.succ (by rw [HO.out, ByteArray.toList_eq (⟨#[13, 10, 13, 10]⟩ : ByteArray)]; exact hq))
          clear hno HO
          go_wp2
          go_roundw
          case rel => exact ⟨k + 1, by omega, by go_num, hno'.out, _, rfl⟩
          case measure => simp [intOf]; omega
        · have hF := hideB2 (show R = (k : Int) + 4 by
            rw [← HR.out]
            have hi : hdI b = (k : Int) := Lib.index_hit hno (by rw [len_data]; omega) (by rw [HO.out, ByteArray.toList_eq (⟨#[13, 10, 13, 10]⟩ : ByteArray)]; exact hq)
            unfold hdN
            rw [hi, if_pos (by omega)]
            omega)
          clear hno HO
          obtain rfl := hF.out
          clear hF
          go_wp2
          go_ret
          exact ⟨rfl, _, rfl⟩
      · have hb : ¬ ((at8 b k).toNat : Int) = 13 := by
          intro hh
          exact h13 (UInt8.toNat_inj.1 (by have : (at8 b k).toNat = 13 := by omega
                                           rw [this]; rfl))
        have hno' := hideB2 (hno.succ (occ_first b k hlt h13))
        clear hno HO h13
        go_wp2
        all_goals
          go_roundw
          case rel => exact ⟨k + 1, by omega, by go_num, hno'.out, _, rfl⟩
          case measure => simp [intOf]; omega
    · have hF := hideB2 (show R = -1 by
        rw [← HR.out, if_neg]
        have hi : hdI b = -1 := Lib.index_past (by decide) hno (by rw [len_data]; show b.size < k + 4; omega)
        rw [hi]; decide)
      have c1 : ¬ (k : Int) + 4 ≤ (b.size : Int) := by omega
      obtain rfl := hF.out
      clear hno hF
      go_wp2
      go_ret
      exact ⟨rfl, _, rfl⟩
set_option maxHeartbeats 1000000 in
theorem sHeadPart_any (b : ByteArray) (w : World) (hs : b.size ≤ 1048576) :
    Calls Try.prog 5 #[.string b] w fun e w' => e = .returned (.tuple #[.string (headPB b), .bool (hdO b)]) ∧ Below w.heap.size w w' := by
  have HC := hideB2 (l8split_any b w hs)
  by_cases h : 0 ≤ hdI b
  · obtain ⟨r1, r2, r3⟩ := hdI_room h
    rw [headPB_yes h, show hdO b = true from decide_eq_true h]
    rw [if_pos h] at HC
    generalize hdN b = n at *
    have c0 : ¬ (n : Int) < 0 := by omega
    have c2 : (n : Int) ≤ (b.size : Int) := by omega
    clear h r2
    go_enter Try.func5, Try.ntmps5
    go_wp2_with fail
    refine HC.out.mono ?_
    rintro e w1 ⟨rfl, k, rfl⟩
    go_wp2
    go_ret2
    exact ⟨rfl, drewN_below _ _⟩
  · rw [headPB_no h, show hdO b = false from decide_eq_false h]
    rw [if_neg h] at HC
    clear h
    go_enter Try.func5, Try.ntmps5
    go_wp2_with fail
    refine HC.out.mono ?_
    rintro e w1 ⟨rfl, k, rfl⟩
    go_wp2
    go_ret2
    exact ⟨rfl, drewN_below _ _⟩
set_option maxHeartbeats 1000000 in
theorem sPayload_any (b : ByteArray) (w : World) (hs : b.size ≤ 1048576) :
    Calls Try.prog 7 #[.string b] w fun e w' => e = .returned (.tuple #[.string (payB b), .bool (hdO b)]) ∧ Below w.heap.size w w' := by
  have HC := hideB2 (l8split_any b w hs)
  by_cases h : 0 ≤ hdI b
  · obtain ⟨r1, r2, r3⟩ := hdI_room h
    rw [payB_yes h, show hdO b = true from decide_eq_true h]
    rw [if_pos h] at HC
    generalize hdN b = n at *
    have c0 : ¬ (n : Int) < 0 := by omega
    have c1 : (0 : Int) ≤ (n : Int) := by omega
    have c2 : (n : Int) ≤ (b.size : Int) := by omega
    clear h r2
    go_enter Try.func7, Try.ntmps7
    go_wp2_with fail
    refine HC.out.mono ?_
    rintro e w1 ⟨rfl, k, rfl⟩
    go_wp2
    go_ret2
    exact ⟨rfl, drewN_below _ _⟩
  · rw [payB_no h, show hdO b = false from decide_eq_false h]
    rw [if_neg h] at HC
    clear h
    go_enter Try.func7, Try.ntmps7
    go_wp2_with fail
    refine HC.out.mono ?_
    rintro e w1 ⟨rfl, k, rfl⟩
    go_wp2
    go_ret2
    exact ⟨rfl, drewN_below _ _⟩
end Go.Proofs.Ytffjpidjhcnnmaa
