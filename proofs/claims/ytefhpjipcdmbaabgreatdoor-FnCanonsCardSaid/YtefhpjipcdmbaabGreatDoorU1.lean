/-
  Chapter 7: what a % stands for; the walks of both sides.
-/
import Derived.Test.YtefhpjipcdmbaabGreatDoorMU
import Derived.Test.YtefhpjipcdmbaabGreatDoorHV
import Derived.Test.YtefhpjipcdmbaabGreatDoorW3
import Derived.Test.YtefhpjipcdmbaabGreatDoorW6
import Derived.Test.YtefhpjipcdmbaabGreatDoorA8
import Derived.Test.YtefhpjipcdmbaabGreatDoorSU
namespace Go.Proofs.YtefhpjipcdmbaabGreatDoor
set_option linter.unusedVariables false
set_option linter.unusedSimpArgs false
open Go.RowKit
theorem inL_opn (n : Int) (h0 : 0 ≤ n) (h1 : n ≤ 255) : decide (0 ≤ Lib.indexByte opnL n.toNat.toUInt8) = inL opnL n := by
  have hn : ((n.toNat.toUInt8).toNat : Int) = n := by simp; omega
  have h := Lib.contains_iff_indexByte opnL n.toNat.toUInt8
  rw [← h]
  unfold inL
  rw [Bool.eq_iff_iff, List.contains_iff_mem, List.any_eq_true]
  constructor
  · intro hm
    exact ⟨_, hm, by rw [beq_iff_eq]; exact hn⟩
  · rintro ⟨x, hx, he⟩
    rw [beq_iff_eq] at he
    have : x = n.toNat.toUInt8 := by
      apply UInt8.toNat_inj.1
      omega
    rw [← this]; exact hx
set_option maxRecDepth 100000 in
set_option maxHeartbeats 1000000 in
theorem IndexByteN_any (s : ByteArray) (c : Int) (w : World) :
    Calls Tryz.prog 105 #[.string s, .int .u8 c] w fun e w' => e = .returned (.int .i64 (Lib.indexByte s.data.toList c.toNat.toUInt8)) ∧ w' = w := by
  go_enter Tryz.func105, Tryz.ntmps105
  go_wp2
  rw [run_callFunc_extern Tryz.func123 (by kernel_rfl) (by kernel_rfl) (by kernel_rfl) (e := Extern.BytealgIndexByte.indexByte) (by kernel_rfl), Lib.run_indexByteString]
  simp only [Result.andThen]
  rw [Oper.upon_value]
  go_wp2
  go_ret
  exact ⟨rfl, rfl⟩
set_option maxHeartbeats 1000000 in
theorem sIndexByte_any (s : ByteArray) (c : Int) (w : World) :
    Calls Tryz.prog 110 #[.string s, .int .u8 c] w fun e w' => e = .returned (.int .i64 (Lib.indexByte s.data.toList c.toNat.toUInt8)) ∧ w' = w := by
  go_enter Tryz.func110, Tryz.ntmps110
  go_wp2_with (go_at_call 105; refine (IndexByteN_any _ _ _).mono ?_; rintro e w' ⟨rfl, rfl⟩)
  go_ret
  exact ⟨rfl, rfl⟩
theorem opnP_let {n : Int} (h : letP n = true) : opnP n = true := by simp [opnP, h]
theorem opnP_dig {n : Int} (h : digP n = true) : opnP n = true := by simp [opnP, h]
theorem opnP_sig {n : Int} (h1 : letP n = false) (h2 : digP n = false) : opnP n = inL opnL n := by simp [opnP, h1, h2]
set_option maxHeartbeats 1000000 in
theorem openByte_any (n : Int) (w : World) (h0 : 0 ≤ n) (h1 : n ≤ 255) :
    Calls Tryz.prog 99 #[.int .u8 n] w fun e w' => e = .returned (.bool (opnP n)) ∧ w' = w := by
  have HI := hideB2 (fun W => sIndexByte_any ⟨#[45, 46, 95, 126]⟩ n W)
  have HO := hideB2 (inL_opn n h0 h1)
  change Hid (∀ W, Calls _ _ _ W fun e w' => e = .returned (.int .i64 (Lib.indexByte opnL n.toNat.toUInt8)) ∧ w' = W) at HI
  generalize Lib.indexByte opnL n.toNat.toUInt8 = x at *
  cases hl : letP n
  · cases hd : digP n
    · rw [opnP_sig hl hd]
      have H2 := hideB2 (fun W => letterByte_any n W h0 h1)
      have H3 := hideB2 (fun W => digitByte_any n W)
      have HL := hideB2 hl
      have HD := hideB2 hd
      rw [hl] at H2
      rw [hd] at H3
      clear hl hd
      go_enter Tryz.func99, Tryz.ntmps99
      go_wp2_with (first | (go_at_call 116; refine (H2.out _).mono ?_; rintro e w' ⟨rfl, rfl⟩) | (go_at_call 89; refine (H3.out _).mono ?_; rintro e w' ⟨rfl, rfl⟩) | (go_at_call 110; refine (HI.out _).mono ?_; rintro e w' ⟨rfl, rfl⟩))
      go_ret
      exact ⟨ret_bool HO.out.symm, rfl⟩
    · rw [opnP_dig hd]
      have H2 := hideB2 (fun W => letterByte_any n W h0 h1)
      have H3 := hideB2 (fun W => digitByte_any n W)
      rw [hl] at H2
      rw [hd] at H3
      clear hl hd
      go_enter Tryz.func99, Tryz.ntmps99
      go_wp2_with (first | (go_at_call 116; refine (H2.out _).mono ?_; rintro e w' ⟨rfl, rfl⟩) | (go_at_call 89; refine (H3.out _).mono ?_; rintro e w' ⟨rfl, rfl⟩))
      go_ret
      exact ⟨rfl, rfl⟩
  · rw [opnP_let hl]
    have H2 := hideB2 (fun W => letterByte_any n W h0 h1)
    rw [hl] at H2
    clear hl
    go_enter Tryz.func99, Tryz.ntmps99
    go_wp2_with (go_at_call 116; refine (H2.out _).mono ?_; rintro e w' ⟨rfl, rfl⟩)
    go_ret
    exact ⟨rfl, rfl⟩
set_option maxHeartbeats 1000000 in
theorem l7free_any (n : Int) (w : World) (h0 : 0 ≤ n) (h1 : n ≤ 255) :
    Calls Tryz.prog 82 #[.int .u8 n] w fun e w' => e = .returned (.bool (opnP n)) ∧ w' = w := by
  have HH := hideB2 (fun W => l1has_any ⟨#[45, 46, 95, 126]⟩ n W (by decide))
  change Hid (∀ W, Calls _ _ _ W fun e w' => e = .returned (.bool (inL opnL n)) ∧ w' = W) at HH
  have H3 := hideB2 (fun W => l1digit_any n W)
  have HL := hideB2 (fun W => l1lower_any n W h0 h1)
  have HP : opnP n = (letP n || (digP n || inL opnL n)) := by unfold opnP; rw [Bool.or_assoc]
  rw [HP]
  unfold letP
  clear HP
  generalize lowI n = m at *
  generalize inL opnL n = z at *
  generalize digP n = d at *
  by_cases a1 : 97 ≤ m
  · by_cases a2 : m ≤ 122
    · rw [decide_eq_true a1, decide_eq_true a2]
      go_enter Tryz.func82, Tryz.ntmps82
      go_wp2_with (first | (go_at_call 60; refine (HL.out _).mono ?_; rintro e w' ⟨rfl, rfl⟩) | (go_at_call 61; refine (H3.out _).mono ?_; rintro e w' ⟨rfl, rfl⟩) | (go_at_call 103; refine (HH.out _).mono ?_; rintro e w' ⟨rfl, rfl⟩))
      go_ret
      exact ⟨rfl, rfl⟩
    · have d2 := decide_eq_false a2
      rw [d2, Bool.and_false, Bool.false_or]
      cases d
      · go_enter Tryz.func82, Tryz.ntmps82
        go_wp2_with (first | (go_at_call 60; refine (HL.out _).mono ?_; rintro e w' ⟨rfl, rfl⟩) | (go_at_call 61; refine (H3.out _).mono ?_; rintro e w' ⟨rfl, rfl⟩) | (go_at_call 103; refine (HH.out _).mono ?_; rintro e w' ⟨rfl, rfl⟩))
        go_ret
        exact ⟨rfl, rfl⟩
      · go_enter Tryz.func82, Tryz.ntmps82
        go_wp2_with (first | (go_at_call 60; refine (HL.out _).mono ?_; rintro e w' ⟨rfl, rfl⟩) | (go_at_call 61; refine (H3.out _).mono ?_; rintro e w' ⟨rfl, rfl⟩) | (go_at_call 103; refine (HH.out _).mono ?_; rintro e w' ⟨rfl, rfl⟩))
        go_ret
        exact ⟨rfl, rfl⟩
  · rw [decide_eq_false a1, Bool.false_and, Bool.false_or]
    cases d
    · go_enter Tryz.func82, Tryz.ntmps82
      go_wp2_with (first | (go_at_call 60; refine (HL.out _).mono ?_; rintro e w' ⟨rfl, rfl⟩) | (go_at_call 61; refine (H3.out _).mono ?_; rintro e w' ⟨rfl, rfl⟩) | (go_at_call 103; refine (HH.out _).mono ?_; rintro e w' ⟨rfl, rfl⟩))
      go_ret
      exact ⟨rfl, rfl⟩
    · go_enter Tryz.func82, Tryz.ntmps82
      go_wp2_with (first | (go_at_call 60; refine (HL.out _).mono ?_; rintro e w' ⟨rfl, rfl⟩) | (go_at_call 61; refine (H3.out _).mono ?_; rintro e w' ⟨rfl, rfl⟩) | (go_at_call 103; refine (HH.out _).mono ?_; rintro e w' ⟨rfl, rfl⟩))
      go_ret
      exact ⟨rfl, rfl⟩
/-- A letter a to z as its great one, on numbers. -/
def upI (n : Int) : Int := if 97 ≤ n ∧ n ≤ 122 then n - 32 else n
theorem up8_toNat (b : UInt8) : ((up8 b).toNat : Int) = upI (b.toNat : Int) := by
  unfold up8 upI
  have hb := b.toNat_lt
  by_cases h : 97 ≤ b.toNat ∧ b.toNat ≤ 122
  · rw [if_pos h, if_pos (by omega)]
    rw [UInt8.toNat_sub]
    simp
    omega
  · rw [if_neg h, if_neg (by omega)]
set_option maxHeartbeats 1000000 in
theorem l7upper_any (n : Int) (w : World) (h0 : 0 ≤ n) (h1 : n ≤ 255) :
    Calls Tryz.prog 83 #[.int .u8 n] w fun e w' => e = .returned (.int .u8 (upI n)) ∧ w' = w := by
  unfold upI
  by_cases a1 : 97 ≤ n
  · by_cases a2 : n ≤ 122
    · rw [if_pos ⟨a1, a2⟩]
      have e1 : IntKind.u8.wrap (n - 32) = n - 32 := by rw [IntKind.wrap_u8]; omega
      go_enter Tryz.func83, Tryz.ntmps83
      go_wp2
      go_ret
      exact ⟨ret_int (by first | rfl | omega), rfl⟩
    · rw [if_neg (by omega)]
      go_enter Tryz.func83, Tryz.ntmps83
      go_wp2
      go_ret
      exact ⟨rfl, rfl⟩
  · rw [if_neg (by omega)]
    go_enter Tryz.func83, Tryz.ntmps83
    go_wp2
    go_ret
    exact ⟨rfl, rfl⟩
/-- The two digits behind the first byte, as ReadHex takes them. -/
theorem rhex_two {s : ByteArray} (h : 3 ≤ s.size) (i : Nat) (hi : i + 3 ≤ s.size) : rhexOk (s.extract (i + 1) (i + 3)) = (hexP (at8 s (i + 1)) && hexP (at8 s (i + 2))) ∧ (rhexOk (s.extract (i + 1) (i + 3)) = true → rhexN (s.extract (i + 1) (i + 3)) = ((nam8 (at8 s (i + 1)) (at8 s (i + 2))).toNat : Int)) := by
  have e : (s.extract (i + 1) (i + 3)).data.toList = [at8 s (i + 1), at8 s (i + 2)] := by
    rw [Lib.extract_data, drop_at8 (i := i + 1) (by omega), drop_at8 (i := i + 1 + 1) (by omega), show i + 3 - (i + 1) = 2 by omega]
    rfl
  have hz : (s.extract (i + 1) (i + 3)).size = 2 := by rw [ByteArray.size_extract]; omega
  have e1 : rhexOk (s.extract (i + 1) (i + 3)) = (hexP (at8 s (i + 1)) && hexP (at8 s (i + 2))) := by
    unfold rhexOk
    rw [hz, e]
    simp [allHex, hexP]
  refine ⟨e1, fun ht => ?_⟩
  rw [e1, Bool.and_eq_true] at ht
  unfold rhexN
  rw [e1, ht.1, ht.2, Bool.and_self, if_pos rfl, e]
  have b1 := hexV_bd ((at8 s (i + 1)).toNat : Int)
  have b2 := hexV_bd ((at8 s (i + 2)).toNat : Int)
  have g1 : 0 ≤ hex8 (at8 s (i + 1)) := by simpa [hexP] using ht.1
  have g2 : 0 ≤ hex8 (at8 s (i + 2)) := by simpa [hexP] using ht.2
  have g3 : hex8 (at8 s (i + 1)) ≤ 15 := b1.2
  have g4 : hex8 (at8 s (i + 2)) ≤ 15 := b2.2
  unfold nam8
  simp only [hval, List.foldl_cons, List.foldl_nil]
  simp
  omega
end Go.Proofs.YtefhpjipcdmbaabGreatDoor
