/-
  Plain mathematics of chapter 2: texts in order. No Go in sight.
-/
import Derived.Test.YtohaghlhdkfkbaaDoorMX
namespace Go.Proofs.YtohaghlhdkfkbaaDoor
set_option linter.unusedVariables false
set_option linter.unusedSimpArgs false
open Go.RowKit

theorem u8_lt_iff (a b : UInt8) : a < b ↔ a.toNat < b.toNat := UInt8.lt_iff_toNat_lt
theorem bl_cons (a b : UInt8) (x y : List UInt8) : Op.bytesLess (a :: x) (b :: y) = (decide (a < b) || (a == b && Op.bytesLess x y)) := rfl
theorem bl_same (x r r' : List UInt8) : Op.bytesLess (x ++ r) (x ++ r') = Op.bytesLess r r' := by
  induction x with
  | nil => rfl
  | cons a x ih =>
    rw [List.cons_append, List.cons_append, bl_cons, ih]
    have h : ¬ a < a := by rw [u8_lt_iff]; omega
    simp [h]
theorem bl_app (x x' r r' : List UInt8) (h : x.length = x'.length) : Op.bytesLess (x ++ r) (x' ++ r') = (Op.bytesLess x x' || (x == x' && Op.bytesLess r r')) := by
  induction x generalizing x' with
  | nil =>
    cases x' with
    | nil => simp [Op.bytesLess]
    | cons b y => simp at h
  | cons a x ih =>
    cases x' with
    | nil => simp at h
    | cons b y =>
      simp only [List.length_cons, Nat.add_right_cancel_iff] at h
      rw [List.cons_append, List.cons_append, bl_cons, bl_cons, ih y h]
      by_cases e : a = b
      · subst e
        have hn : ¬ a < a := by rw [u8_lt_iff]; omega
        simp [hn]
      · have e1 : (a == b) = false := by simpa using e
        have e2 : (a :: x == b :: y) = false := by simp [e]
        rw [e1, e2]; simp
theorem bl_nil : Op.bytesLess [] [] = false := rfl
theorem digit_lt (a b : Nat) (ha : a < 10) (hb : b < 10) : (UInt8.ofNat (48 + a) < UInt8.ofNat (48 + b)) ↔ a < b := by
  rw [u8_lt_iff]; simp; omega
theorem digit_eq (a b : Nat) (ha : a < 10) (hb : b < 10) : (UInt8.ofNat (48 + a) = UInt8.ofNat (48 + b)) ↔ a = b := by
  constructor
  · intro h
    have := congrArg UInt8.toNat h
    simp at this
    omega
  · rintro rfl; rfl
theorem bl_dig (p : Nat) : ∀ n n', Op.bytesLess (digL n p) (digL n' p) = decide (n % 10 ^ p < n' % 10 ^ p) := by
  induction p with
  | zero => intro n n'; simp [digL, Op.bytesLess]; omega
  | succ p ih =>
    intro n n'
    rw [digL, digL, bl_cons, ih, Nat.mod_pow_succ, Nat.mod_pow_succ]
    have h1 : n % 10 ^ p < 10 ^ p := Nat.mod_lt _ (Nat.pow_pos (by decide))
    have h2 : n' % 10 ^ p < 10 ^ p := Nat.mod_lt _ (Nat.pow_pos (by decide))
    have ha : n / 10 ^ p % 10 < 10 := Nat.mod_lt _ (by decide)
    have hb : n' / 10 ^ p % 10 < 10 := Nat.mod_lt _ (by decide)
    generalize n % 10 ^ p = r at *
    generalize n' % 10 ^ p = r' at *
    generalize n / 10 ^ p % 10 = a at *
    generalize n' / 10 ^ p % 10 = b at *
    generalize 10 ^ p = k at *
    rw [Bool.eq_iff_iff]
    simp only [Bool.or_eq_true, Bool.and_eq_true, decide_eq_true_eq, beq_iff_eq, digit_lt a b ha hb, digit_eq a b ha hb]
    rcases Nat.lt_trichotomy a b with h | h | h
    · have : k * a + k ≤ k * b := by rw [← Nat.mul_succ]; exact Nat.mul_le_mul_left k h
      constructor
      · intro _; omega
      · intro _; exact Or.inl h
    · subst h
      constructor
      · rintro (h' | ⟨_, h'⟩) <;> omega
      · intro h'; exact Or.inr ⟨rfl, by omega⟩
    · have : k * b + k ≤ k * a := by rw [← Nat.mul_succ]; exact Nat.mul_le_mul_left k h
      constructor
      · rintro (h' | ⟨h', _⟩) <;> omega
      · intro h'; omega
theorem dig_beq {n n' p : Nat} (hn : n < 10 ^ p) (hn' : n' < 10 ^ p) : (digL n p == digL n' p) = decide (n = n') := by
  rw [Bool.eq_iff_iff]
  simp only [beq_iff_eq, decide_eq_true_eq]
  constructor
  · intro h
    rw [← valN_dig n p hn, h, valN_dig n' p hn']
  · rintro rfl; rfl
theorem bl_digs {n n' p : Nat} (hn : n < 10 ^ p) (hn' : n' < 10 ^ p) (r r' : List UInt8) : Op.bytesLess (digL n p ++ r) (digL n' p ++ r') = (decide (n < n') || (decide (n = n') && Op.bytesLess r r')) := by
  rw [bl_app _ _ _ _ (by rw [digL_length, digL_length]), bl_dig, Nat.mod_eq_of_lt hn, Nat.mod_eq_of_lt hn', dig_beq hn hn']
theorem bl_last {n n' p : Nat} (hn : n < 10 ^ p) (hn' : n' < 10 ^ p) : Op.bytesLess (digL n p) (digL n' p) = decide (n < n') := by
  rw [bl_dig, Nat.mod_eq_of_lt hn, Nat.mod_eq_of_lt hn']
/-- One day and hour ahead of another, part by part. -/
def ahead (y m d h i s y' m' d' h' i' s' : Nat) : Bool :=
  decide (y < y') || (decide (y = y') && (decide (m < m') || (decide (m = m') && (decide (d < d') || (decide (d = d') && (decide (h < h') || (decide (h = h') && (decide (i < i') || (decide (i = i') && decide (s < s'))))))))))
theorem secs_ahead {y m d h i s y' m' d' h' i' s' : Nat} (hv : vld y m d h i s) (hv' : vld y' m' d' h' i' s') : decide (secs y m d h i s < secs y' m' d' h' i' s') = ahead y m d h i s y' m' d' h' i' s' := by
  have a1 := dnum_lt hv
  have a2 := dnum_lt hv'
  obtain ⟨_, _, b1, b2, b3, b4, b5, b6, b7, b8, b9, b10⟩ := hv
  obtain ⟨_, _, c1, c2, c3, c4, c5, c6, c7, c8, c9, c10⟩ := hv'
  unfold ahead
  rw [Bool.eq_iff_iff]
  simp only [Bool.or_eq_true, Bool.and_eq_true, decide_eq_true_eq]
  unfold secs
  rcases Nat.lt_trichotomy y y' with h1 | h1 | h1
  · have := dby_mono (a := (y : Int) + 1) (b := y') (by omega)
    omega
  · subst h1
    have d1 := cum_succ y m b1 b2
    have d2 := cum_succ y m' c1 c2
    unfold dnum
    rcases Nat.lt_trichotomy m m' with h2 | h2 | h2
    · have := cum_mono y (a := (m : Int) + 1) (b := m') (by omega) (by omega) (by omega)
      omega
    · subst h2
      omega
    · have := cum_mono y (a := (m' : Int) + 1) (b := m) (by omega) (by omega) (by omega)
      omega
  · have := dby_mono (a := (y' : Int) + 1) (b := y) (by omega)
    omega
theorem stamp_less {y m d h i s y' m' d' h' i' s' : Nat} (hv : vld y m d h i s) (hv' : vld y' m' d' h' i' s') :
    Op.bytesLess (stampB y m d h i s).toList (stampB y' m' d' h' i' s').toList = decide (secs y m d h i s < secs y' m' d' h' i' s') := by
  rw [secs_ahead hv hv', ByteArray.toList_eq, ByteArray.toList_eq, stamp_list, stamp_list]
  have e1 := dim_bd y m
  have e2 := dim_bd y' m'
  unfold vld at hv hv'
  simp only [List.append_assoc]
  rw [bl_digs (p := 4) (by simp; omega) (by simp; omega), bl_digs (p := 2) (by simp; omega) (by simp; omega), bl_digs (p := 2) (by simp; omega) (by simp; omega), bl_digs (p := 2) (by simp; omega) (by simp; omega), bl_digs (p := 2) (by simp; omega) (by simp; omega), bl_last (p := 2) (by simp; omega) (by simp; omega)]
  rfl
theorem warc_less {y m d h i s y' m' d' h' i' s' : Nat} (hv : vld y m d h i s) (hv' : vld y' m' d' h' i' s') :
    Op.bytesLess (warcB y m d h i s).toList (warcB y' m' d' h' i' s').toList = decide (secs y m d h i s < secs y' m' d' h' i' s') := by
  rw [secs_ahead hv hv', ByteArray.toList_eq, ByteArray.toList_eq, warc_list, warc_list]
  have e1 := dim_bd y m
  have e2 := dim_bd y' m'
  unfold vld at hv hv'
  unfold clockL
  simp only [List.append_assoc]
  rw [bl_digs (p := 4) (by simp; omega) (by simp; omega), bl_same, bl_digs (p := 2) (by simp; omega) (by simp; omega), bl_same, bl_digs (p := 2) (by simp; omega) (by simp; omega), bl_same, bl_digs (p := 2) (by simp; omega) (by simp; omega), bl_same, bl_digs (p := 2) (by simp; omega) (by simp; omega), bl_same, bl_app _ _ _ _ (by rw [digL_length, digL_length]), bl_last (p := 2) (by simp; omega) (by simp; omega)]
  have e : Op.bytesLess [90] [90] = false := by decide
  rw [e]
  simp only [Bool.and_false, Bool.or_false]
  rfl
end Go.Proofs.YtohaghlhdkfkbaaDoor
