/-
  The walks over chapter 3: words.
-/
import Derived.Test.YtknpolmenfdheaaProg
import Derived.Test.YtknpolmenfdheaaMS2
import Derived.Laws.ShiftsVarLaws
import Derived.Deep.QuietTactic
import Derived.BigQuiet
namespace Go.Proofs.Ytknpolmenfdheaa
set_option linter.unusedVariables false
set_option linter.unusedSimpArgs false
open Go.RowKit
theorem below_a1 (w : World) (o : Obj) : Below w.heap.size w (w.alloc o) := (Below.refl _ w).alloc (Nat.le_refl _) o
theorem below_a2 (w : World) (o o' : Obj) : Below w.heap.size w ((w.alloc o).alloc o') := (below_a1 w o).alloc (by simp) o'
theorem below_a3 (w : World) (o o' o'' : Obj) : Below w.heap.size w (((w.alloc o).alloc o').alloc o'') := (below_a2 w o o').alloc (by simp; omega) o''
theorem below_then {w w1 w2 : World} (h : Below w.heap.size w w1) (k : Below w1.heap.size w1 w2) : Below w.heap.size w w2 := h.trans (k.mono h.size)
theorem bcell2 {W w1 : World} (hb : Below W.heap.size W w1) : (∀ b o, b < W.heap.size → w1.cell? ⟨b, o, none⟩ = W.cell? ⟨b, o, none⟩) ∧ (∀ b o, b < W.heap.size → w1.frozen? ⟨b, o, none⟩ = W.frozen? ⟨b, o, none⟩) :=
  ⟨fun b o h => hb.cell (p := ⟨b, o, none⟩) h, fun b o h => hb.frozen (p := ⟨b, o, none⟩) h⟩
theorem hideB2 {p : Prop} (h : p) : Hid p := h
theorem ret_two {a b : Value} {c d : Value} (h : a = c) (k : b = d) : Ending.returned (.tuple #[a, b]) = .returned (.tuple #[c, d]) := by rw [h, k]
def withinB (n a b : Int) : Bool := decide (a ≤ n) && decide (n ≤ b)
theorem within_iff {n a b : Int} : withinB n a b = true ↔ a ≤ n ∧ n ≤ b := by unfold withinB; simp
/-- Is it a word? -/
def wordQ (n : Int) : Bool := withinB n 0 4294967295
theorem wordQ_iff {n : Int} : wordQ n = true ↔ 0 ≤ n ∧ n ≤ 4294967295 := within_iff
set_option maxHeartbeats 400000 in
theorem within_any (n a b : Int) (w : World) :
    Calls Try.prog 32 #[.int .i64 n, .int .i64 a, .int .i64 b] w fun e w' => e = .returned (.bool (withinB n a b)) ∧ w' = w := by
  by_cases h : a ≤ n
  · by_cases h' : n ≤ b
    · rw [show withinB n a b = true by simp [withinB, h, h']]
      go_enter Try.func32, Try.ntmps32
      go_wp2
      go_ret
      exact ⟨rfl, rfl⟩
    · rw [show withinB n a b = false by simp [withinB, h, h']]
      go_enter Try.func32, Try.ntmps32
      go_wp2
      go_ret
      exact ⟨rfl, rfl⟩
  · rw [show withinB n a b = false by simp [withinB, h]]
    go_enter Try.func32, Try.ntmps32
    go_wp2
    go_ret
    exact ⟨rfl, rfl⟩
set_option maxHeartbeats 400000 in
theorem isWord_any (n : Int) (w : World) :
    Calls Try.prog 39 #[.int .i64 n] w fun e w' => e = .returned (.bool (wordQ n)) ∧ w' = w := by
  go_enter Try.func39, Try.ntmps39
  go_wp2_with (go_at_call 32; refine (within_any _ _ _ _).mono ?_; rintro e w' ⟨rfl, rfl⟩)
  go_ret
  exact ⟨rfl, rfl⟩
set_option maxHeartbeats 400000 in
theorem l3word_any (n : Int) (w : World) :
    Calls Try.prog 42 #[.int .i64 n] w fun e w' => e = .returned (.bool (wordQ n)) ∧ w' = w := by
  by_cases h : 0 ≤ n
  · by_cases h' : n ≤ 4294967295
    · rw [show wordQ n = true by simp [wordQ, withinB, h, h']]
      go_enter Try.func42, Try.ntmps42
      go_wp2
      go_ret
      exact ⟨rfl, rfl⟩
    · rw [show wordQ n = false by simp [wordQ, withinB, h, h']]
      go_enter Try.func42, Try.ntmps42
      go_wp2
      go_ret
      exact ⟨rfl, rfl⟩
  · rw [show wordQ n = false by simp [wordQ, withinB, h]]
    go_enter Try.func42, Try.ntmps42
    go_wp2
    go_ret
    exact ⟨rfl, rfl⟩
theorem and31_u64 (n : Nat) (hn : n ≤ 31) : bits .and .u64 (n : Int) 31 = (n : Int) := by
  have := u64_and_nat n 31 (by omega) (by decide)
  rw [show n &&& 31 = n by rw [show 31 = 2 ^ 5 - 1 by decide, Nat.and_two_pow_sub_one_eq_mod]; omega] at this
  exact this
set_option maxHeartbeats 400000 in
theorem rotl32_any (x n : Nat) (w : World) (hx : x < 4294967296) (hn : n ≤ 31) :
    Calls Try.prog 41 #[.int .u32 (x : Int), .int .i64 (n : Int)] w fun e w' => e = .returned (.int .u32 ((rotl x n : Nat) : Int)) ∧ w' = w := by
  have h31 := and31_u64 n hn
  have hfin := hideB2 (turn_u32 x n hx)
  go_enter Try.func41, Try.ntmps41
  go_wp2
  go_ret
  exact ⟨ret_int hfin.out.symm, rfl⟩
theorem turn_i64w (x n : Nat) (hx : x < 4294967296) (hn : n ≤ 31) :
    bits .and .i64 (bits .or .i64 (wrap64 ((x : Int) * 2 ^ n)) ((x : Int) / 2 ^ (32 - n))) 4294967295 = ((rotl x n : Nat) : Int) := by
  have h1 := mul_pow_lt hx hn
  have e1 : (x : Int) * 2 ^ n = ((x * 2 ^ n : Nat) : Int) := by simp
  have e2 : wrap64 ((x : Int) * 2 ^ n) = (x : Int) * 2 ^ n := by
    rw [e1]
    generalize x * 2 ^ n = y at *
    unfold wrap64
    omega
  rw [e2]
  exact turn_i64 x n hx hn
set_option maxHeartbeats 400000 in
theorem l3turn_any (x n : Nat) (w : World) (hx : x < 4294967296) (hn : n ≤ 31) :
    Calls Try.prog 46 #[.int .i64 (x : Int), .int .i64 (n : Int)] w fun e w' => e = .returned (.int .i64 ((rotl x n : Nat) : Int)) ∧ ∃ m, w' = w.drewN m := by
  have hfin := hideB2 (turn_i64w x n hx hn)
  go_enter Try.func46, Try.ntmps46
  go_wp2
  refine wp_region_quiet_lit ?_ ?_ ?_
  · kernel_rfl
  · kernel_rfl
  repeat (go_big_quiet_step (fail))
  refine wpQuiet_nil ?_
  rintro _ ⟨nq, rfl⟩
  go_wp2
  go_ret
  exact ⟨ret_int hfin.out.symm, _, rfl⟩
theorem quarter {t : Nat} (h : t ≤ 79) : (t : Int) / 20 = 0 ∧ fOf t = chs ∧ kOf t = 1518500249 ∨ (t : Int) / 20 = 1 ∧ fOf t = par ∧ kOf t = 1859775393 ∨ (t : Int) / 20 = 2 ∧ fOf t = maj ∧ kOf t = 2400959708 ∨ (t : Int) / 20 = 3 ∧ fOf t = par ∧ kOf t = 3395469782 := by
  have h4 : t / 20 = 0 ∨ t / 20 = 1 ∨ t / 20 = 2 ∨ t / 20 = 3 := by omega
  rcases h4 with e | e | e | e
  · exact .inl ⟨by omega, by funext b c d; simp [fOf, e], by simp [kOf, e]⟩
  · exact .inr (.inl ⟨by omega, by funext b c d; simp [fOf, e], by simp [kOf, e]⟩)
  · exact .inr (.inr (.inl ⟨by omega, by funext b c d; simp [fOf, e], by simp [kOf, e]⟩))
  · exact .inr (.inr (.inr ⟨by omega, by funext b c d; simp [fOf, e], by simp [kOf, e]⟩))
theorem xmask (b : Nat) (hb : b < 4294967296) : bits .xor .u32 4294967295 (b : Int) = ((b ^^^ 4294967295 : Nat) : Int) := by
  have := u32_xor_nat 4294967295 b (by decide) hb
  rw [Nat.xor_comm] at this
  exact this
theorem chs_u32 (b c d : Nat) (hb : b < 4294967296) (hc : c < 4294967296) (hd : d < 4294967296) :
    bits .or .u32 (bits .and .u32 (b : Int) (c : Int)) (bits .and .u32 (bits .xor .u32 4294967295 (b : Int)) (d : Int)) = ((chs b c d : Nat) : Int) := by
  have hx : b ^^^ 4294967295 < 4294967296 := xor_lt32 hb (by decide)
  rw [xmask b hb, u32_and_nat b c hb hc, u32_and_nat _ d hx hd, u32_or_nat _ _ (and_lt32 hc) (and_lt32 hd)]
  rfl
theorem par_u32 (b c d : Nat) (hb : b < 4294967296) (hc : c < 4294967296) (hd : d < 4294967296) :
    bits .xor .u32 (bits .xor .u32 (b : Int) (c : Int)) (d : Int) = ((par b c d : Nat) : Int) := by
  rw [u32_xor_nat b c hb hc, u32_xor_nat _ d (xor_lt32 hb hc) hd]
  rfl
theorem maj_u32 (b c d : Nat) (hb : b < 4294967296) (hc : c < 4294967296) (hd : d < 4294967296) :
    bits .or .u32 (bits .or .u32 (bits .and .u32 (b : Int) (c : Int)) (bits .and .u32 (b : Int) (d : Int))) (bits .and .u32 (c : Int) (d : Int)) = ((maj b c d : Nat) : Int) := by
  rw [u32_and_nat b c hb hc, u32_and_nat b d hb hd, u32_and_nat c d hc hd, u32_or_nat _ _ (and_lt32 hc) (and_lt32 hd), u32_or_nat _ _ (or_lt32 (and_lt32 hc) (and_lt32 hd)) (and_lt32 hd)]
  rfl
theorem chs_i64 (b c d : Nat) (hb : b < 4294967296) (hc : c < 4294967296) (hd : d < 4294967296) :
    bits .or .i64 (bits .and .i64 (b : Int) (c : Int)) (bits .and .i64 (bits .xor .i64 (b : Int) 4294967295) (d : Int)) = ((chs b c d : Nat) : Int) := by
  have hx : b ^^^ 4294967295 < 4294967296 := xor_lt32 hb (by decide)
  have h1 := and_lt32 (a := b) hc
  have h2 := and_lt32 (a := b ^^^ 4294967295) hd
  have e := i64_xor_nat b 4294967295 (by omega) (by decide)
  rw [show bits .xor .i64 (b : Int) 4294967295 = ((b ^^^ 4294967295 : Nat) : Int) from e, i64_and_nat b c (by omega) (by omega), i64_and_nat _ d (by omega) (by omega), i64_or_nat _ _ (by omega) (by omega)]
  rfl
theorem par_i64 (b c d : Nat) (hb : b < 4294967296) (hc : c < 4294967296) (hd : d < 4294967296) :
    bits .xor .i64 (bits .xor .i64 (b : Int) (c : Int)) (d : Int) = ((par b c d : Nat) : Int) := by
  have h1 := xor_lt32 hb hc
  rw [i64_xor_nat b c (by omega) (by omega), i64_xor_nat _ d (by omega) (by omega)]
  rfl
theorem maj_i64 (b c d : Nat) (hb : b < 4294967296) (hc : c < 4294967296) (hd : d < 4294967296) :
    bits .or .i64 (bits .or .i64 (bits .and .i64 (b : Int) (c : Int)) (bits .and .i64 (b : Int) (d : Int))) (bits .and .i64 (c : Int) (d : Int)) = ((maj b c d : Nat) : Int) := by
  have h1 := and_lt32 (a := b) hc
  have h2 := and_lt32 (a := b) hd
  have h3 := and_lt32 (a := c) hd
  have h4 := or_lt32 h1 h2
  rw [i64_and_nat b c (by omega) (by omega), i64_and_nat b d (by omega) (by omega), i64_and_nat c d (by omega) (by omega), i64_or_nat _ _ (by omega) (by omega), i64_or_nat _ _ (by omega) (by omega)]
  rfl
theorem tup2 {a b c d : Int} {k l : IntKind} (h : c = a) (g : d = b) : Ending.returned (.tuple #[.int k a, .int l b]) = .returned (.tuple #[.int k c, .int l d]) := by rw [h, g]
set_option maxHeartbeats 1000000 in
theorem roundParts_any (t b c d : Nat) (w : World) (ht : t ≤ 79) (hb : b < 4294967296) (hc : c < 4294967296) (hd : d < 4294967296) :
    Calls Try.prog 44 #[.int .i64 (t : Int), .int .u32 (b : Int), .int .u32 (c : Int), .int .u32 (d : Int)] w fun e w' => e = .returned (.tuple #[.int .u32 ((fOf t b c d : Nat) : Int), .int .u32 ((kOf t : Nat) : Int)]) ∧ w' = w := by
  have H1 := hideB2 (chs_u32 b c d hb hc hd)
  have H2 := hideB2 (par_u32 b c d hb hc hd)
  have H3 := hideB2 (maj_u32 b c d hb hc hd)
  rcases quarter ht with ⟨h, hf, hk⟩ | ⟨h, hf, hk⟩ | ⟨h, hf, hk⟩ | ⟨h, hf, hk⟩
  all_goals
    rw [hf, hk]
    clear hf hk
    go_enter Try.func44, Try.ntmps44
    go_wp2
    go_ret2
  · exact ⟨tup2 H1.out.symm rfl, rfl⟩
  · exact ⟨tup2 H2.out.symm rfl, rfl⟩
  · exact ⟨tup2 H3.out.symm rfl, rfl⟩
  · exact ⟨tup2 H2.out.symm rfl, rfl⟩
set_option maxHeartbeats 1000000 in
theorem l3f_any (t b c d : Nat) (w : World) (ht : t ≤ 79) (hb : b < 4294967296) (hc : c < 4294967296) (hd : d < 4294967296) :
    Calls Try.prog 47 #[.int .i64 (t : Int), .int .i64 (b : Int), .int .i64 (c : Int), .int .i64 (d : Int)] w fun e w' => e = .returned (.int .i64 ((fOf t b c d : Nat) : Int)) ∧ w' = w := by
  have H1 := hideB2 (chs_i64 b c d hb hc hd)
  have H2 := hideB2 (par_i64 b c d hb hc hd)
  have H3 := hideB2 (maj_i64 b c d hb hc hd)
  rcases quarter ht with ⟨h, hf, hk⟩ | ⟨h, hf, hk⟩ | ⟨h, hf, hk⟩ | ⟨h, hf, hk⟩
  all_goals
    rw [hf]
    clear hf hk
    go_enter Try.func47, Try.ntmps47
    go_wp2
    go_ret
  · exact ⟨ret_int H1.out.symm, rfl⟩
  · exact ⟨ret_int H2.out.symm, rfl⟩
  · exact ⟨ret_int H3.out.symm, rfl⟩
  · exact ⟨ret_int H2.out.symm, rfl⟩
set_option maxHeartbeats 1000000 in
theorem l3k_any (t : Nat) (w : World) (ht : t ≤ 79) :
    Calls Try.prog 48 #[.int .i64 (t : Int)] w fun e w' => e = .returned (.int .i64 ((kOf t : Nat) : Int)) ∧ w' = w := by
  rcases quarter ht with ⟨h, hf, hk⟩ | ⟨h, hf, hk⟩ | ⟨h, hf, hk⟩ | ⟨h, hf, hk⟩
  all_goals
    rw [hk]
    clear hf hk
    go_enter Try.func48, Try.ntmps48
    go_wp2
    go_ret
    exact ⟨rfl, rfl⟩
/-- What Turn answers. -/
def turnV (x n : Int) : Int := if wordQ x = true ∧ withinB n 0 31 = true then ((rotl x.toNat n.toNat : Nat) : Int) else -1
theorem turnV_yes (x n : Nat) (hx : x < 4294967296) (hn : n ≤ 31) : turnV x n = ((rotl x n : Nat) : Int) := by
  unfold turnV
  rw [if_pos ⟨wordQ_iff.2 ⟨by omega, by omega⟩, within_iff.2 ⟨by omega, by omega⟩⟩]
  simp
theorem turnV_no {x n : Int} (h : wordQ x = false ∨ withinB n 0 31 = false) : turnV x n = -1 := by
  unfold turnV
  rw [if_neg]
  rintro ⟨h1, h2⟩
  rcases h with h | h
  · rw [h1] at h; cases h
  · rw [h2] at h; cases h
set_option maxHeartbeats 1000000 in
theorem Turn_any (x n : Int) (w : World) :
    Calls Try.prog 33 #[.int .i64 x, .int .i64 n] w fun e w' => e = .returned (.int .i64 (turnV x n)) ∧ w' = w := by
  cases h1 : wordQ x with
  | false =>
    rw [turnV_no (.inl h1)]
    go_enter Try.func33, Try.ntmps33
    go_wp2_with fail
    refine (isWord_any x _).mono ?_
    rintro e w' ⟨rfl, rfl⟩
    go_wp2
    go_ret
    exact ⟨rfl, rfl⟩
  | true =>
    cases h2 : withinB n 0 31 with
    | false =>
      rw [turnV_no (.inr h2)]
      go_enter Try.func33, Try.ntmps33
      go_wp2_with fail
      refine (isWord_any x _).mono ?_
      rintro e w' ⟨rfl, rfl⟩
      go_wp2_with fail
      refine (within_any _ _ _ _).mono ?_
      rintro e w' ⟨rfl, rfl⟩
      go_wp2
      go_ret
      exact ⟨rfl, rfl⟩
    | true =>
      obtain ⟨hx0, hx1⟩ := wordQ_iff.1 h1
      obtain ⟨hn0, hn1⟩ := within_iff.1 h2
      obtain ⟨x, rfl⟩ := Int.eq_ofNat_of_zero_le hx0
      obtain ⟨n, rfl⟩ := Int.eq_ofNat_of_zero_le hn0
      rw [turnV_yes x n (by omega) (by omega)]
      have hlt := rotl_lt x n (by omega)
      go_enter Try.func33, Try.ntmps33
      go_wp2_with fail
      refine (isWord_any _ _).mono ?_
      rintro e w' ⟨rfl, rfl⟩
      go_wp2_with fail
      refine (within_any _ _ _ _).mono ?_
      rintro e w' ⟨rfl, rfl⟩
      go_wp2_with fail
      refine (rotl32_any x n _ (by omega) (by omega)).mono ?_
      rintro e w' ⟨rfl, rfl⟩
      generalize hy : rotl x n = y at *
      have HY := hideB2 hy
      clear hy
      go_wp2
      go_ret
      exact ⟨ret_int (congrArg Int.ofNat HY.out), rfl⟩
end Go.Proofs.Ytknpolmenfdheaa
