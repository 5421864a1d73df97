/-
  Plain mathematics of chapter 2: digits with zeros ahead, and the numbers that are read of them. No Go in sight. · Plain mathematics of chapter 2: the calendar. No Go in sight. · Plain functions of chapter 2: the names and the texts of dates. No Go in sight. · Plain functions of chapter 2: what is read of a date's text. No Go in sight. · Plain mathematics of chapter 2: what stands where in a date's text. No Go in sight. · Plain mathematics of chapter 2: of which time a text is. No Go in sight. · Chapter 8 on lists: how a looser reader takes a record. No Go in sight. · Words of 32 bits, as natural numbers: turned, joined, summed. No Go in sight. · Digests on lists: the eighty words of a block, the rounds, blocks one after the other, the end. No Go in sight.
-/
import Derived.Test.YtffjpidjhcnnmabDoorJ0
import Derived.WalkKit
import Derived.Laws.BitsAllLaws
namespace Go.Proofs.YtffjpidjhcnnmabDoor
set_option linter.unusedVariables false
set_option linter.unusedSimpArgs false
open Go.RowKit

/-- The last p digits of n. -/
def digL (n : Nat) : Nat → List UInt8
  | 0 => []
  | p + 1 => UInt8.ofNat (48 + n / 10 ^ p % 10) :: digL n p
def digB (n p : Nat) : ByteArray := ⟨(digL n p).toArray⟩
theorem digL_length (n p : Nat) : (digL n p).length = p := by
  induction p with
  | zero => rfl
  | succ p ih => simp [digL, ih]
theorem digB_size (n p : Nat) : (digB n p).size = p := by
  show (digL n p).toArray.size = p
  simp [digL_length]
theorem digB_list (n p : Nat) : (digB n p).data.toList = digL n p := rfl
theorem digL_snoc (n p : Nat) : digL n (p + 1) = digL (n / 10) p ++ [UInt8.ofNat (48 + n % 10)] := by
  induction p with
  | zero => simp [digL]
  | succ p ih =>
    have e : n / 10 ^ (p + 1) = n / 10 / 10 ^ p := by rw [Nat.pow_succ, Nat.mul_comm, Nat.div_div_eq_div_mul]
    rw [digL, ih, digL, e]
    rfl
theorem digL_zero (p : Nat) : digL 0 p = List.replicate p 48 := by
  induction p with
  | zero => rfl
  | succ p ih => rw [digL, ih]; simp [List.replicate_succ]
/-- With zeros ahead up to p bytes. -/
def padL (l : List UInt8) (p : Nat) : List UInt8 := List.replicate (p - l.length) 48 ++ l
theorem padL_dec (p : Nat) : ∀ n, n < 10 ^ (p + 1) → padL (Lib.decDigits n) (p + 1) = digL n (p + 1) := by
  induction p with
  | zero =>
    intro n hn
    rw [Lib.decDigits, dif_pos (by omega)]
    simp [padL, digL]
    congr 1; omega
  | succ p ih =>
    intro n hn
    rw [digL_snoc]
    by_cases h : n < 10
    · have e : n / 10 = 0 := by omega
      rw [e, digL_zero, Lib.decDigits, dif_pos h]
      simp only [padL, List.length_singleton]
      congr 2
      congr 1; omega
    · have h1 : n / 10 < 10 ^ (p + 1) := by
        rw [Nat.pow_succ] at hn
        omega
      have h2 := ih (n / 10) h1
      rw [decDigits_step n h, ← h2]
      simp only [padL, List.length_append, List.length_singleton, ← List.append_assoc]
      congr 3
      omega
theorem dec_len_le (p n : Nat) (h : n < 10 ^ (p + 1)) : (Lib.decDigits n).length ≤ p + 1 := by
  have h1 := congrArg List.length (padL_dec p n h)
  rw [digL_length] at h1
  simp [padL] at h1
  omega
/-- What 'number' reads: what is no digit is a 0. -/
def dv (b : UInt8) : Nat := if dig8 b = true then b.toNat - 48 else 0
def valN (l : List UInt8) : Nat := l.foldl (fun n b => n * 10 + dv b) 0
theorem valN_snoc (l : List UInt8) (b : UInt8) : valN (l ++ [b]) = valN l * 10 + dv b := by simp [valN]
theorem dv_lt (b : UInt8) : dv b < 10 := by
  unfold dv
  split
  · have := (dig8_iff b).1 ‹_›; omega
  · omega
theorem valN_lt (l : List UInt8) : valN l < 10 ^ l.length := by
  refine snoc_ind (p := fun l => valN l < 10 ^ l.length) (by simp [valN]) ?_ l
  intro q b ih
  have hb := dv_lt b
  rw [valN_snoc, List.length_append, List.length_singleton, Nat.pow_succ]
  omega
/-- A digit, or a blank. -/
def numb (b : UInt8) : Bool := b == 32 || dig8 b
/-- What spec's l2num reads. -/
def numS (l : List UInt8) : Int := if l.all numb = true then (valN l : Int) else -1
theorem dig_ofNat (d : Nat) (h : d < 10) : dig8 (UInt8.ofNat (48 + d)) = true := by
  rw [dig8_iff]; simp; omega
theorem dv_ofNat (d : Nat) (h : d < 10) : dv (UInt8.ofNat (48 + d)) = d := by
  unfold dv
  rw [if_pos (dig_ofNat d h)]
  simp; omega
theorem digL_all (n p : Nat) : (digL n p).all dig8 = true := by
  induction p with
  | zero => rfl
  | succ p ih => rw [digL, List.all_cons, ih, dig_ofNat _ (by omega)]; rfl
theorem digL_numb (n p : Nat) : (digL n p).all numb = true := by
  have h := digL_all n p
  rw [List.all_eq_true] at h ⊢
  intro x hx
  simp [numb, h x hx]
theorem valN_digL (p : Nat) : ∀ n, valN (digL n p) = n % 10 ^ p := by
  induction p with
  | zero => intro n; simp [digL, valN]; omega
  | succ p ih =>
    intro n
    rw [digL_snoc, valN_snoc, ih, dv_ofNat _ (by omega), Nat.pow_succ, Nat.mul_comm (10 ^ p) 10, Nat.mod_mul]
    omega
theorem valN_dig (n p : Nat) (h : n < 10 ^ p) : valN (digL n p) = n := by rw [valN_digL, Nat.mod_eq_of_lt h]
theorem numS_dig (n p : Nat) (h : n < 10 ^ p) : numS (digL n p) = n := by
  unfold numS; rw [if_pos (digL_numb n p), valN_dig n p h]
theorem numS_bd (l : List UInt8) : -1 ≤ numS l ∧ numS l < 10 ^ l.length := by
  have h := valN_lt l
  unfold numS
  split
  · have : ((valN l : Nat) : Int) < ((10 ^ l.length : Nat) : Int) := by exact_mod_cast h
    rw [Int.natCast_pow] at this
    exact ⟨by omega, this⟩
  · exact ⟨by omega, by have : (0 : Int) < 10 ^ l.length := Int.pow_pos (by decide)
                        omega⟩
theorem mid_list {α : Type} (a b c : List α) (k t : Nat) (ha : a.length = k) (hb : k + b.length = t) : ((a ++ b ++ c).take t).drop k = b := by
  subst ha hb
  rw [List.append_assoc, List.take_length_add_append, List.drop_append_of_le_length (by simp)]
  simp
theorem mid_bytes (s : ByteArray) (a b c : List UInt8) (k t : Nat) (hs : s.data.toList = a ++ b ++ c) (ha : a.length = k) (hb : k + b.length = t) : (s.extract k t).data.toList = b := by
  rw [extract_list, hs]
  exact mid_list a b c k t ha hb
end Go.Proofs.YtffjpidjhcnnmabDoor
namespace Go.Proofs.YtffjpidjhcnnmabDoor
set_option linter.unusedVariables false
set_option linter.unusedSimpArgs false

def leapB (y : Int) : Bool := decide (y % 4 = 0) && (!decide (y % 100 = 0) || decide (y % 400 = 0))
def lp (y : Int) : Int := if leapB y = true then 1 else 0
/-- The days of month m in the year y. -/
def dim (y m : Int) : Int := if m = 2 then 28 + lp y else if m = 4 ∨ m = 6 ∨ m = 9 ∨ m = 11 then 30 else 31
/-- The days of the year y ahead of month m. -/
def cum (y m : Int) : Int :=
  if m ≤ 1 then 0 else if m = 2 then 31 else lp y + (if m = 3 then 59 else if m = 4 then 90 else if m = 5 then 120 else if m = 6 then 151 else if m = 7 then 181 else if m = 8 then 212 else if m = 9 then 243 else if m = 10 then 273 else if m = 11 then 304 else if m = 12 then 334 else 365)
/-- The days from 1970 to the beginning of the year y. -/
def dby (y : Int) : Int := 365 * (y - 1970) + ((y - 1) / 4 - (y - 1) / 100 + (y - 1) / 400) - 477

theorem leapB_iff (y : Int) : leapB y = true ↔ y % 4 = 0 ∧ (y % 100 ≠ 0 ∨ y % 400 = 0) := by
  unfold leapB; simp
theorem lp_pos {y : Int} (h : leapB y = true) : lp y = 1 := by unfold lp; rw [if_pos h]
theorem lp_neg {y : Int} (h : leapB y = false) : lp y = 0 := by unfold lp; rw [if_neg (by rw [h]; decide)]
theorem lp_01 (y : Int) : lp y = 0 ∨ lp y = 1 := by unfold lp; split <;> simp
theorem lp_bd (y : Int) : 0 ≤ lp y ∧ lp y ≤ 1 := by rcases lp_01 y with h | h <;> omega
theorem dby_succ (y : Int) : dby (y + 1) = dby y + 365 + lp y := by
  have hl : lp y = if y % 4 = 0 ∧ (y % 100 ≠ 0 ∨ y % 400 = 0) then 1 else 0 := by
    unfold lp
    by_cases h : leapB y = true
    · rw [if_pos h, if_pos ((leapB_iff y).1 h)]
    · rw [if_neg h, if_neg (fun hh => h ((leapB_iff y).2 hh))]
  unfold dby
  rw [hl]
  split <;> omega
theorem dby_1970 : dby 1970 = 0 := by decide
theorem dby_10000 : dby 10000 = 2932897 := by decide
theorem dby_mono {a b : Int} (h : a ≤ b) : dby a ≤ dby b := by
  obtain ⟨k, rfl⟩ : ∃ k : Nat, b = a + k := ⟨(b - a).toNat, by omega⟩
  clear h
  induction k with
  | zero => simp
  | succ k ih =>
    have h1 := dby_succ (a + k)
    have h2 := lp_bd (a + k)
    have e : a + ((k + 1 : Nat) : Int) = a + k + 1 := by omega
    rw [e, h1]
    omega
theorem dby_bd {y : Int} (h0 : 1970 ≤ y) (h1 : y ≤ 10000) : 0 ≤ dby y ∧ dby y ≤ 2932897 := by
  have a := dby_mono h0
  have b := dby_mono h1
  rw [dby_1970] at a
  rw [dby_10000] at b
  exact ⟨a, b⟩
theorem month_cases {m : Int} (h0 : 1 ≤ m) (h1 : m ≤ 12) : m = 1 ∨ m = 2 ∨ m = 3 ∨ m = 4 ∨ m = 5 ∨ m = 6 ∨ m = 7 ∨ m = 8 ∨ m = 9 ∨ m = 10 ∨ m = 11 ∨ m = 12 := by omega
theorem cum_succ (y m : Int) (h0 : 1 ≤ m) (h1 : m ≤ 12) : cum y (m + 1) = cum y m + dim y m := by
  rcases month_cases h0 h1 with rfl | rfl | rfl | rfl | rfl | rfl | rfl | rfl | rfl | rfl | rfl | rfl <;> simp [cum, dim] <;> omega
theorem cum_one (y : Int) : cum y 1 = 0 := by simp [cum]
theorem cum_13 (y : Int) : cum y 13 = 365 + lp y := by simp [cum]; omega
theorem dim_bd (y m : Int) : 28 ≤ dim y m ∧ dim y m ≤ 31 := by
  have := lp_bd y
  unfold dim
  split
  · omega
  · split <;> omega
theorem cum_bd (y m : Int) : 0 ≤ cum y m ∧ cum y m ≤ 366 := by
  have := lp_bd y
  unfold cum
  repeat' split
  all_goals omega
theorem cum_mono (y : Int) {a b : Int} (h0 : 1 ≤ a) (h : a ≤ b) (h1 : b ≤ 13) : cum y a ≤ cum y b := by
  obtain ⟨k, rfl⟩ : ∃ k : Nat, b = a + k := ⟨(b - a).toNat, by omega⟩
  clear h
  induction k with
  | zero => simp
  | succ k ih =>
    have h1 := cum_succ y (a + k) (by omega) (by omega)
    have h2 := dim_bd y (a + k)
    have e : a + ((k + 1 : Nat) : Int) = a + k + 1 := by omega
    have := ih (by omega)
    rw [e, h1]
    omega
/-- A day that there is, and an hour. -/
def vld (y m d h i s : Int) : Prop := 1970 ≤ y ∧ y ≤ 9999 ∧ 1 ≤ m ∧ m ≤ 12 ∧ 1 ≤ d ∧ d ≤ dim y m ∧ 0 ≤ h ∧ h ≤ 23 ∧ 0 ≤ i ∧ i ≤ 59 ∧ 0 ≤ s ∧ s ≤ 59
def vldB (y m d h i s : Int) : Bool := decide (1970 ≤ y ∧ y ≤ 9999 ∧ 1 ≤ m ∧ m ≤ 12 ∧ 1 ≤ d ∧ d ≤ dim y m ∧ 0 ≤ h ∧ h ≤ 23 ∧ 0 ≤ i ∧ i ≤ 59 ∧ 0 ≤ s ∧ s ≤ 59)
theorem vldB_iff {y m d h i s : Int} : vldB y m d h i s = true ↔ vld y m d h i s := by unfold vldB vld; rw [decide_eq_true_iff]
/-- The days ahead, and the seconds. -/
def dnum (y m d : Int) : Int := dby y + cum y m + d - 1
def secs (y m d h i s : Int) : Int := dnum y m d * 86400 + h * 3600 + i * 60 + s
theorem cum_top (y m : Int) (h0 : 1 ≤ m) (h1 : m ≤ 12) : cum y m + dim y m ≤ 365 + lp y := by
  have a := cum_succ y m h0 h1
  have b := cum_mono y (a := m + 1) (b := 13) (by omega) (by omega) (by omega)
  rw [cum_13] at b
  omega
theorem dnum_lt {y m d h i s : Int} (hv : vld y m d h i s) : dby y ≤ dnum y m d ∧ dnum y m d < dby (y + 1) := by
  obtain ⟨a, b, c, e, f, g, _⟩ := hv
  have h1 := cum_top y m c e
  have h2 := cum_bd y m
  have h3 := dby_succ y
  unfold dnum
  omega
theorem dnum_bd {y m d h i s : Int} (hv : vld y m d h i s) : 0 ≤ dnum y m d ∧ dnum y m d ≤ 2932896 := by
  have h1 := dnum_lt hv
  obtain ⟨a, b, _⟩ := hv
  have h2 := dby_bd a (by omega)
  have h3 := dby_mono (a := y + 1) (b := 10000) (by omega)
  rw [dby_10000] at h3
  omega
theorem secs_bd {y m d h i s : Int} (hv : vld y m d h i s) : 0 ≤ secs y m d h i s ∧ secs y m d h i s ≤ 253402300799 := by
  have h1 := dnum_bd hv
  obtain ⟨_, _, _, _, _, _, a, b, c, e, f, g⟩ := hv
  unfold secs
  omega
theorem secs_parts {y m d h i s : Int} (hv : vld y m d h i s) :
    secs y m d h i s / 86400 = dnum y m d ∧ secs y m d h i s % 86400 = h * 3600 + i * 60 + s ∧ secs y m d h i s / 3600 % 24 = h ∧ secs y m d h i s / 60 % 60 = i ∧ secs y m d h i s % 60 = s := by
  obtain ⟨_, _, _, _, _, _, a, b, c, e, f, g⟩ := hv
  unfold secs
  omega
theorem clock_parts {h i s : Int} (a : 0 ≤ h) (b : h ≤ 23) (c : 0 ≤ i) (e : i ≤ 59) (f : 0 ≤ s) (g : s ≤ 59) :
    (h * 3600 + i * 60 + s) / 3600 = h ∧ (h * 3600 + i * 60 + s) / 60 % 60 = i ∧ (h * 3600 + i * 60 + s) % 60 = s := by omega
/-- Each day has its year: just the one. -/
theorem year_iff {y m d h i s : Int} (hv : vld y m d h i s) (k : Int) : dby (k + 1) ≤ dnum y m d ↔ k < y := by
  have h1 := dnum_lt hv
  constructor
  · intro hk
    rcases (by omega : k < y ∨ y ≤ k) with h | h
    · exact h
    · have := dby_mono (a := y + 1) (b := k + 1) (by omega); omega
  · intro hk
    have := dby_mono (a := k + 1) (b := y) (by omega); omega
theorem month_iff {y m d h i s : Int} (hv : vld y m d h i s) (k : Int) (k0 : 1 ≤ k) (k1 : k ≤ m) : dim y k ≤ cum y m + d - 1 - cum y k ↔ k < m := by
  obtain ⟨_, _, c, e, f, g, _⟩ := hv
  have h1 := cum_succ y k k0 (by omega)
  constructor
  · intro hk
    rcases (by omega : k < m ∨ m ≤ k) with h | h
    · exact h
    · obtain rfl : k = m := by omega
      omega
  · intro hk
    have := cum_mono y (a := k + 1) (b := m) (by omega) (by omega) (by omega); omega
theorem year_of (n : Nat) : ∃ y : Int, 1970 ≤ y ∧ dby y ≤ n ∧ (n : Int) < dby (y + 1) := by
  induction n with
  | zero => exact ⟨1970, by omega, by decide, by decide⟩
  | succ n ih =>
    obtain ⟨y, h0, h1, h2⟩ := ih
    by_cases h : ((n + 1 : Nat) : Int) < dby (y + 1)
    · exact ⟨y, h0, by omega, h⟩
    · have h3 := dby_succ (y + 1)
      have h4 := lp_bd (y + 1)
      exact ⟨y + 1, by omega, by omega, by omega⟩
theorem month_of (y r : Int) (h0 : 0 ≤ r) (h1 : r < 365 + lp y) : ∃ m : Int, 1 ≤ m ∧ m ≤ 12 ∧ cum y m ≤ r ∧ r < cum y m + dim y m := by
  have key : ∀ k : Nat, k ≤ 12 → r < cum y (13 : Int) → (∃ m : Int, 1 ≤ m ∧ m ≤ 12 ∧ cum y m ≤ r ∧ r < cum y (m + 1)) ∨ r < cum y (13 - k) := by
    intro k
    induction k with
    | zero => intro _ h; right; simpa using h
    | succ k ih =>
      intro hk h
      rcases ih (by omega) h with h' | h'
      · left; exact h'
      · by_cases hc : cum y (13 - ((k + 1 : Nat) : Int)) ≤ r
        · left
          exact ⟨13 - ((k + 1 : Nat) : Int), by omega, by omega, hc, by rw [show (13 - ((k + 1 : Nat) : Int) + 1 : Int) = 13 - k by omega]; exact h'⟩
        · right; omega
  rcases key 12 (by omega) (by rw [cum_13]; exact h1) with ⟨m, a, b, c, e⟩ | h
  · exact ⟨m, a, b, c, by rw [cum_succ y m a b] at e; exact e⟩
  · have : cum y (13 - ((12 : Nat) : Int)) = 0 := cum_one y
    omega
/-- Each time has its day and hour. -/
theorem civ_of (t : Int) (h0 : 0 ≤ t) (h1 : t ≤ 253402300799) : ∃ y m d h i s : Int, vld y m d h i s ∧ t = secs y m d h i s := by
  obtain ⟨n, hn⟩ : ∃ n : Nat, t / 86400 = n := ⟨(t / 86400).toNat, by omega⟩
  obtain ⟨y, a, b, c⟩ := year_of n
  have hs := dby_succ y
  obtain ⟨m, e, f, g, k⟩ := month_of y (n - dby y) (by omega) (by omega)
  have hy : y ≤ 9999 := by
    rcases (by omega : y < 10000 ∨ 10000 ≤ y) with h | h
    · omega
    · have := dby_mono h; rw [dby_10000] at this; omega
  refine ⟨y, m, n - dby y - cum y m + 1, t / 3600 % 24, t / 60 % 60, t % 60, ⟨a, hy, e, f, by omega, by omega, by omega, by omega, by omega, by omega, by omega, by omega⟩, ?_⟩
  unfold secs dnum
  omega
theorem dnum_inj {y m d h i s y' m' d' h' i' s' : Int} (hv : vld y m d h i s) (hv' : vld y' m' d' h' i' s') (e : dnum y m d = dnum y' m' d') : y = y' ∧ m = m' ∧ d = d' := by
  have a1 := dnum_lt hv
  have a2 := dnum_lt hv'
  have ey : y = y' := by
    rcases Int.lt_trichotomy y y' with h | h | h
    · have := dby_mono (a := y + 1) (b := y') (by omega); omega
    · exact h
    · have := dby_mono (a := y' + 1) (b := y) (by omega); omega
  subst ey
  obtain ⟨_, _, b1, b2, b3, b4, _⟩ := hv
  obtain ⟨_, _, c1, c2, c3, c4, _⟩ := hv'
  have d1 := cum_succ y m b1 b2
  have d2 := cum_succ y m' c1 c2
  unfold dnum at e
  have em : m = m' := by
    rcases Int.lt_trichotomy m m' with h | h | h
    · have := cum_mono y (a := m + 1) (b := m') (by omega) (by omega) (by omega); omega
    · exact h
    · have := cum_mono y (a := m' + 1) (b := m) (by omega) (by omega) (by omega); omega
  subst em
  exact ⟨rfl, rfl, by omega⟩
theorem secs_inj {y m d h i s y' m' d' h' i' s' : Int} (hv : vld y m d h i s) (hv' : vld y' m' d' h' i' s') (e : secs y m d h i s = secs y' m' d' h' i' s') : y = y' ∧ m = m' ∧ d = d' ∧ h = h' ∧ i = i' ∧ s = s' := by
  have a := secs_parts hv
  have b := secs_parts hv'
  rw [e] at a
  obtain ⟨e1, e2, e3⟩ := dnum_inj hv hv' (by omega)
  exact ⟨e1, e2, e3, by omega, by omega, by omega⟩
end Go.Proofs.YtffjpidjhcnnmabDoor
namespace Go.Proofs.YtffjpidjhcnnmabDoor
set_option linter.unusedVariables false
set_option linter.unusedSimpArgs false
open Go.RowKit

def dayL (k : Nat) : List UInt8 := [[77, 111, 110, 100, 97, 121], [84, 117, 101, 115, 100, 97, 121], [87, 101, 100, 110, 101, 115, 100, 97, 121], [84, 104, 117, 114, 115, 100, 97, 121], [70, 114, 105, 100, 97, 121], [83, 97, 116, 117, 114, 100, 97, 121], [83, 117, 110, 100, 97, 121]].getD k []
def dayB (k : Nat) : ByteArray := ⟨(dayL k).toArray⟩
def monL (k : Nat) : List UInt8 := [[], [74, 97, 110], [70, 101, 98], [77, 97, 114], [65, 112, 114], [77, 97, 121], [74, 117, 110], [74, 117, 108], [65, 117, 103], [83, 101, 112], [79, 99, 116], [78, 111, 118], [68, 101, 99]].getD k []
def monB (k : Nat) : ByteArray := ⟨(monL k).toArray⟩
theorem seven {k : Nat} (h : k < 7) : k = 0 ∨ k = 1 ∨ k = 2 ∨ k = 3 ∨ k = 4 ∨ k = 5 ∨ k = 6 := by omega
theorem twelve {k : Nat} (h0 : 1 ≤ k) (h1 : k ≤ 12) : k = 1 ∨ k = 2 ∨ k = 3 ∨ k = 4 ∨ k = 5 ∨ k = 6 ∨ k = 7 ∨ k = 8 ∨ k = 9 ∨ k = 10 ∨ k = 11 ∨ k = 12 := by omega
theorem dayB_size {k : Nat} (h : k < 7) : 6 ≤ (dayB k).size ∧ (dayB k).size ≤ 9 := by
  rcases seven h with rfl | rfl | rfl | rfl | rfl | rfl | rfl <;> decide
theorem dayB_bd (k : Nat) : (dayB k).size ≤ 9 := by
  rcases Nat.lt_or_ge k 7 with h | h
  · exact (dayB_size h).2
  · have : dayL k = [] := by unfold dayL; rw [List.getD, List.getElem?_eq_none (by simp; omega)]; rfl
    unfold dayB
    rw [this]
    decide
theorem monB_size {k : Nat} (h0 : 1 ≤ k) (h1 : k ≤ 12) : (monB k).size = 3 := by
  rcases twelve h0 h1 with rfl | rfl | rfl | rfl | rfl | rfl | rfl | rfl | rfl | rfl | rfl | rfl <;> decide
theorem monB_bd (k : Nat) : (monB k).size ≤ 3 := by
  rcases Nat.lt_or_ge k 13 with h | h
  · rcases Nat.eq_zero_or_pos k with rfl | h'
    · decide
    · rw [monB_size h' (by omega)]; exact Nat.le_refl _
  · have : monL k = [] := by unfold monL; rw [List.getD, List.getElem?_eq_none (by simp; omega)]; rfl
    unfold monB
    rw [this]
    decide
/-- A day's first three letters. -/
def dayS (k : Nat) : ByteArray := (dayB k).extract 0 3
theorem dayS_size {k : Nat} (h : k < 7) : (dayS k).size = 3 := by
  rcases seven h with rfl | rfl | rfl | rfl | rfl | rfl | rfl <;> decide
def clockB (h i s : Nat) : ByteArray := digB h 2 ++ ⟨#[58]⟩ ++ digB i 2 ++ ⟨#[58]⟩ ++ digB s 2
theorem clockB_size (h i s : Nat) : (clockB h i s).size = 8 := by
  unfold clockB
  simp only [ByteArray.size_append, digB_size]
  rfl
def httpB (wd y m d h i s : Nat) : ByteArray := dayS wd ++ ⟨#[44, 32]⟩ ++ digB d 2 ++ ⟨#[32]⟩ ++ monB m ++ ⟨#[32]⟩ ++ digB y 4 ++ ⟨#[32]⟩ ++ clockB h i s ++ ⟨#[32, 71, 77, 84]⟩
def longB (wd y m d h i s : Nat) : ByteArray := dayB wd ++ ⟨#[44, 32]⟩ ++ digB d 2 ++ ⟨#[45]⟩ ++ monB m ++ ⟨#[45]⟩ ++ digB y 2 ++ ⟨#[32]⟩ ++ clockB h i s ++ ⟨#[32, 71, 77, 84]⟩
/-- The day of a line: a blank in a zero's place. -/
def bday (d : Nat) : ByteArray := if d < 10 then ⟨#[32]⟩ ++ digB d 1 else digB d 2
theorem bday_size (d : Nat) : (bday d).size = 2 := by
  unfold bday
  split
  · rw [ByteArray.size_append, digB_size]; rfl
  · exact digB_size d 2
def lineB (wd y m d h i s : Nat) : ByteArray := dayS wd ++ ⟨#[32]⟩ ++ monB m ++ ⟨#[32]⟩ ++ bday d ++ ⟨#[32]⟩ ++ clockB h i s ++ ⟨#[32]⟩ ++ digB y 4
def warcB (y m d h i s : Nat) : ByteArray := digB y 4 ++ ⟨#[45]⟩ ++ digB m 2 ++ ⟨#[45]⟩ ++ digB d 2 ++ ⟨#[84]⟩ ++ clockB h i s ++ ⟨#[90]⟩
def stampB (y m d h i s : Nat) : ByteArray := digB y 4 ++ digB m 2 ++ digB d 2 ++ digB h 2 ++ digB i 2 ++ digB s 2
theorem civ_ofN (t : Int) (h0 : 0 ≤ t) (h1 : t ≤ 253402300799) : ∃ y m d h i s : Nat, vld y m d h i s ∧ t = secs y m d h i s := by
  obtain ⟨y, m, d, h, i, s, hv, e⟩ := civ_of t h0 h1
  have hv' := hv
  unfold vld at hv'
  obtain ⟨y, rfl⟩ := Int.eq_ofNat_of_zero_le (a := y) (by omega)
  obtain ⟨m, rfl⟩ := Int.eq_ofNat_of_zero_le (a := m) (by omega)
  obtain ⟨d, rfl⟩ := Int.eq_ofNat_of_zero_le (a := d) (by omega)
  obtain ⟨h, rfl⟩ := Int.eq_ofNat_of_zero_le (a := h) (by omega)
  obtain ⟨i, rfl⟩ := Int.eq_ofNat_of_zero_le (a := i) (by omega)
  obtain ⟨s, rfl⟩ := Int.eq_ofNat_of_zero_le (a := s) (by omega)
  exact ⟨y, m, d, h, i, s, hv, e⟩
/-- The row of impl.digits, after k rounds. -/
def digRow (n p k : Nat) : List Int := List.replicate (p - k) 0 ++ (digL n k).map fun b => (b.toNat : Int)
theorem digRow_len (n p k : Nat) (h : k ≤ p) : (digRow n p k).length = p := by simp [digRow, digL_length]; omega
theorem digRow_zero (n p : Nat) : digRow n p 0 = List.replicate p 0 := by simp [digRow, digL]
theorem digRow_succ (n p k : Nat) (h : k < p) : digRow n p (k + 1) = (digRow n p k).set (p - 1 - k) (48 + ((n / 10 ^ k % 10 : Nat) : Int)) := by
  unfold digRow
  rw [show p - k = (p - (k + 1)) + 1 by omega, List.replicate_succ', digL, List.map_cons, List.append_assoc, List.set_append_right _ _ (by simp; omega)]
  have e : p - 1 - k - (List.replicate (p - (k + 1)) (0 : Int)).length = 0 := by simp; omega
  rw [e]
  simp only [List.cons_append, List.nil_append, List.set_cons_zero]
  congr 2
  simp
  omega
theorem digRow_all (n p : Nat) : strOfNums (digRow n p p) = digB n p := by
  unfold digRow strOfNums digB
  rw [Nat.sub_self]
  simp only [List.replicate_zero, List.nil_append, List.map_map]
  congr 2
  conv => rhs; rw [← List.map_id (digL n p)]
  apply List.map_congr_left
  intro b _
  simp
end Go.Proofs.YtffjpidjhcnnmabDoor
namespace Go.Proofs.YtffjpidjhcnnmabDoor
set_option linter.unusedVariables false
set_option linter.unusedSimpArgs false
open Go.RowKit

def monGo (s : ByteArray) : Nat → Nat
  | 0 => 0
  | n + 1 => if eqB (monB (12 - n)) s = true then 12 - n else monGo s n
/-- The month of that name; 0 if there is none. -/
def monOf (s : ByteArray) : Nat := monGo s 12
theorem monGo_yes {s : ByteArray} {k : Nat} (h0 : 1 ≤ k) (h1 : k ≤ 12) (h : eqB (monB k) s = true) : monGo s (13 - k) = k := by
  rw [show 13 - k = (12 - k) + 1 by omega, monGo, show 12 - (12 - k) = k by omega, if_pos h]
theorem monGo_no {s : ByteArray} {k : Nat} (h0 : 1 ≤ k) (h1 : k ≤ 12) (h : eqB (monB k) s = false) : monGo s (13 - k) = monGo s (13 - (k + 1)) := by
  rw [show 13 - k = (12 - k) + 1 by omega, monGo, show 12 - (12 - k) = k by omega, if_neg (by rw [h]; decide), show 13 - (k + 1) = 12 - k by omega]
theorem monGo_le (s : ByteArray) (n : Nat) : monGo s n ≤ 12 := by
  induction n with
  | zero => simp [monGo]
  | succ n ih => rw [monGo]; split <;> omega
theorem monOf_le (s : ByteArray) : monOf s ≤ 12 := monGo_le s 12
theorem monL_inj : ∀ j, j < 13 → ∀ m, m < 13 → monL j = monL m → j = m := by decide
theorem monB_inj {j m : Nat} (hj : j ≤ 12) (hm : m ≤ 12) (h : monB j = monB m) : j = m := by
  have h1 : (monB j).data.toList = (monB m).data.toList := by rw [h]
  exact monL_inj j (by omega) m (by omega) h1
theorem monGo_mon {m : Nat} (h1 : m ≤ 12) : ∀ n k, k + n = m → 1 ≤ k → monGo (monB m) (13 - k) = m
  | 0, k, h, h0 => by
    obtain rfl : k = m := by omega
    exact monGo_yes h0 h1 (eqB_self _)
  | n + 1, k, h, h0 => by
    rw [monGo_no h0 (by omega) (Bool.eq_false_iff.2 fun hh => by have := monB_inj (by omega) h1 (eqB_iff.1 hh); omega)]
    exact monGo_mon h1 n (k + 1) (by omega) (by omega)
theorem monOf_mon {m : Nat} (h0 : 1 ≤ m) (h1 : m ≤ 12) : monOf (monB m) = m := monGo_mon h1 (m - 1) 1 (by omega) (by omega)
def nval (s : ByteArray) : Nat := valN s.data.toList
theorem nval_lt (s : ByteArray) (p : Nat) (h : s.size ≤ p) : nval s < 10 ^ p := by
  have h1 := valN_lt s.data.toList
  rw [len_data] at h1
  exact Nat.lt_of_lt_of_le h1 (Nat.pow_le_pow_right (by decide) h)
theorem nval_4 (s : ByteArray) (h : s.size ≤ 4) : nval s < 10000 := nval_lt s 4 h
theorem nval_2 (s : ByteArray) (h : s.size ≤ 2) : nval s < 100 := nval_lt s 2 h
theorem ext_size (s : ByteArray) (a b : Nat) (h : a ≤ b) (hb : b ≤ s.size) : (s.extract a b).size = b - a := by
  rw [ByteArray.size_extract]; omega
/-- What the program takes a text's parts for. -/
def yOf (two : Nat) : Nat := if two ≤ 69 then 2000 + two else 1900 + two
theorem nval_dig {s : ByteArray} {n p : Nat} (h : s.data.toList = digL n p) (hn : n < 10 ^ p) : nval s = n := by unfold nval; rw [h, valN_dig n p hn]
theorem nval_mod {s : ByteArray} {n p : Nat} (h : s.data.toList = digL n p) : nval s = n % 10 ^ p := by unfold nval; rw [h, valN_digL]
end Go.Proofs.YtffjpidjhcnnmabDoor
namespace Go.Proofs.YtffjpidjhcnnmabDoor
set_option linter.unusedVariables false
set_option linter.unusedSimpArgs false
open Go.RowKit

/-- The day of the week, 0 for Monday. -/
def wdN' (t : Int) : Nat := ((3 + t / 86400) % 7).toNat
theorem wdN'_lt (t : Int) : wdN' t < 7 := by unfold wdN'; omega
theorem app_list (a b : ByteArray) : (a ++ b).data.toList = a.data.toList ++ b.data.toList := by rw [ByteArray.data_append]; simp
def clockL (h i s : Nat) : List UInt8 := digL h 2 ++ [58] ++ digL i 2 ++ [58] ++ digL s 2
theorem clock_list (h i s : Nat) : (clockB h i s).data.toList = clockL h i s := by
  unfold clockB clockL
  simp only [app_list, digB_list]
theorem clockL_len (h i s : Nat) : (clockL h i s).length = 8 := by simp [clockL, digL_length]
theorem clock_pos {c : ByteArray} {h i s : Nat} (hc : c.data.toList = clockL h i s) :
    (c.extract 0 2).data.toList = digL h 2 ∧ (c.extract 3 5).data.toList = digL i 2 ∧ (c.extract 6 8).data.toList = digL s 2 := by
  refine ⟨mid_bytes c [] (digL h 2) ([58] ++ digL i 2 ++ [58] ++ digL s 2) 0 2 ?_ rfl ?_, mid_bytes c (digL h 2 ++ [58]) (digL i 2) ([58] ++ digL s 2) 3 5 ?_ ?_ ?_, mid_bytes c (digL h 2 ++ [58] ++ digL i 2 ++ [58]) (digL s 2) [] 6 8 ?_ ?_ ?_⟩
  all_goals first | (rw [hc]; simp [clockL]) | simp [digL_length]
/-- The parts of a clock, as numbers. -/
theorem clock_nums {c : ByteArray} {h i s : Nat} (hc : c.data.toList = clockL h i s) (hh : h < 100) (hi : i < 100) (hs : s < 100) :
    nval (c.extract 0 2) = h ∧ nval (c.extract 3 5) = i ∧ nval (c.extract 6 8) = s := by
  obtain ⟨a, b, d⟩ := clock_pos hc
  exact ⟨nval_dig a hh, nval_dig b hi, nval_dig d hs⟩
/-! The records' form. -/
theorem warc_list (y m d h i s : Nat) : (warcB y m d h i s).data.toList = digL y 4 ++ [45] ++ digL m 2 ++ [45] ++ digL d 2 ++ [84] ++ clockL h i s ++ [90] := by
  unfold warcB
  simp only [app_list, digB_list, clock_list]
theorem warc_size (y m d h i s : Nat) : (warcB y m d h i s).size = 20 := by
  rw [← len_data, warc_list]; simp [digL_length, clockL_len]
theorem warc_pos (y m d h i s : Nat) : ((warcB y m d h i s).extract 0 4).data.toList = digL y 4 ∧ ((warcB y m d h i s).extract 5 7).data.toList = digL m 2 ∧ ((warcB y m d h i s).extract 8 10).data.toList = digL d 2 ∧ ((warcB y m d h i s).extract 11 19).data.toList = clockL h i s := by
  refine ⟨mid_bytes _ [] (digL y 4) ([45] ++ digL m 2 ++ [45] ++ digL d 2 ++ [84] ++ clockL h i s ++ [90]) 0 4 ?_ rfl ?_, mid_bytes _ (digL y 4 ++ [45]) (digL m 2) ([45] ++ digL d 2 ++ [84] ++ clockL h i s ++ [90]) 5 7 ?_ ?_ ?_,
    mid_bytes _ (digL y 4 ++ [45] ++ digL m 2 ++ [45]) (digL d 2) ([84] ++ clockL h i s ++ [90]) 8 10 ?_ ?_ ?_, mid_bytes _ (digL y 4 ++ [45] ++ digL m 2 ++ [45] ++ digL d 2 ++ [84]) (clockL h i s) [90] 11 19 ?_ ?_ ?_⟩
  all_goals first | (rw [warc_list]; done) | (rw [warc_list]; simp; done) | (simp [digL_length, clockL_len]; done)
/-! The stamp. -/
theorem stamp_list (y m d h i s : Nat) : (stampB y m d h i s).data.toList = digL y 4 ++ digL m 2 ++ digL d 2 ++ digL h 2 ++ digL i 2 ++ digL s 2 := by
  unfold stampB
  simp only [app_list, digB_list]
theorem stamp_size (y m d h i s : Nat) : (stampB y m d h i s).size = 14 := by
  rw [← len_data, stamp_list]; simp [digL_length]
theorem stamp_pos (y m d h i s : Nat) : ((stampB y m d h i s).extract 0 4).data.toList = digL y 4 ∧ ((stampB y m d h i s).extract 4 6).data.toList = digL m 2 ∧ ((stampB y m d h i s).extract 6 8).data.toList = digL d 2 ∧
    ((stampB y m d h i s).extract 8 10).data.toList = digL h 2 ∧ ((stampB y m d h i s).extract 10 12).data.toList = digL i 2 ∧ ((stampB y m d h i s).extract 12 14).data.toList = digL s 2 := by
  refine ⟨mid_bytes _ [] (digL y 4) (digL m 2 ++ digL d 2 ++ digL h 2 ++ digL i 2 ++ digL s 2) 0 4 ?_ rfl ?_, mid_bytes _ (digL y 4) (digL m 2) (digL d 2 ++ digL h 2 ++ digL i 2 ++ digL s 2) 4 6 ?_ ?_ ?_,
    mid_bytes _ (digL y 4 ++ digL m 2) (digL d 2) (digL h 2 ++ digL i 2 ++ digL s 2) 6 8 ?_ ?_ ?_, mid_bytes _ (digL y 4 ++ digL m 2 ++ digL d 2) (digL h 2) (digL i 2 ++ digL s 2) 8 10 ?_ ?_ ?_,
    mid_bytes _ (digL y 4 ++ digL m 2 ++ digL d 2 ++ digL h 2) (digL i 2) (digL s 2) 10 12 ?_ ?_ ?_, mid_bytes _ (digL y 4 ++ digL m 2 ++ digL d 2 ++ digL h 2 ++ digL i 2) (digL s 2) [] 12 14 ?_ ?_ ?_⟩
  all_goals first | (rw [stamp_list]; done) | (rw [stamp_list]; simp; done) | (simp [digL_length]; done)
/-! The three of messages. -/
theorem dayS_list (k : Nat) (h : k < 7) : (dayS k).data.toList = (dayL k).take 3 ∧ ((dayL k).take 3).length = 3 := by
  constructor
  · unfold dayS; rw [extract_list]; rfl
  · rcases seven h with rfl | rfl | rfl | rfl | rfl | rfl | rfl <;> decide
theorem dayB_list (k : Nat) : (dayB k).data.toList = dayL k := rfl
theorem monB_list (k : Nat) : (monB k).data.toList = monL k := rfl
theorem monL_len {k : Nat} (h0 : 1 ≤ k) (h1 : k ≤ 12) : (monL k).length = 3 := by
  rcases twelve h0 h1 with rfl | rfl | rfl | rfl | rfl | rfl | rfl | rfl | rfl | rfl | rfl | rfl <;> decide
theorem http_list (wd y m d h i s : Nat) (hw : wd < 7) : (httpB wd y m d h i s).data.toList = (dayL wd).take 3 ++ [44, 32] ++ digL d 2 ++ [32] ++ monL m ++ [32] ++ digL y 4 ++ [32] ++ clockL h i s ++ [32, 71, 77, 84] := by
  unfold httpB
  simp only [app_list, digB_list, clock_list, monB_list, (dayS_list wd hw).1]
theorem http_size (wd y m d h i s : Nat) (hw : wd < 7) (h0 : 1 ≤ m) (h1 : m ≤ 12) : (httpB wd y m d h i s).size = 29 := by
  rw [← len_data, http_list _ _ _ _ _ _ _ hw]; simp only [List.length_append, digL_length, clockL_len, monL_len h0 h1, (dayS_list wd hw).2]; rfl
theorem http_pos (wd y m d h i s : Nat) (hw : wd < 7) (h0 : 1 ≤ m) (h1 : m ≤ 12) : ((httpB wd y m d h i s).extract 12 16).data.toList = digL y 4 ∧ (httpB wd y m d h i s).extract 8 11 = monB m ∧ ((httpB wd y m d h i s).extract 5 7).data.toList = digL d 2 ∧ ((httpB wd y m d h i s).extract 17 25).data.toList = clockL h i s := by
  have hL := http_list wd y m d h i s hw
  have l1 := (dayS_list wd hw).2
  have l2 := monL_len h0 h1
  refine ⟨mid_bytes _ ((dayL wd).take 3 ++ [44, 32] ++ digL d 2 ++ [32] ++ monL m ++ [32]) (digL y 4) ([32] ++ clockL h i s ++ [32, 71, 77, 84]) 12 16 ?_ ?_ ?_, bytes_ext (mid_bytes _ ((dayL wd).take 3 ++ [44, 32] ++ digL d 2 ++ [32]) (monL m) ([32] ++ digL y 4 ++ [32] ++ clockL h i s ++ [32, 71, 77, 84]) 8 11 ?_ ?_ ?_),
    mid_bytes _ ((dayL wd).take 3 ++ [44, 32]) (digL d 2) ([32] ++ monL m ++ [32] ++ digL y 4 ++ [32] ++ clockL h i s ++ [32, 71, 77, 84]) 5 7 ?_ ?_ ?_, mid_bytes _ ((dayL wd).take 3 ++ [44, 32] ++ digL d 2 ++ [32] ++ monL m ++ [32] ++ digL y 4 ++ [32]) (clockL h i s) [32, 71, 77, 84] 17 25 ?_ ?_ ?_⟩
  all_goals first | (rw [hL]; done) | (rw [hL]; simp; done) | rfl | (simp only [List.length_append, digL_length, clockL_len, l1, l2, List.length_cons, List.length_nil]; done)
/-- A line's day. -/
def bdayL (d : Nat) : List UInt8 := if d < 10 then [32] ++ digL d 1 else digL d 2
theorem bday_list (d : Nat) : (bday d).data.toList = bdayL d := by
  unfold bday bdayL
  split
  · rw [app_list]; rfl
  · rfl
theorem bdayL_len (d : Nat) : (bdayL d).length = 2 := by unfold bdayL; split <;> simp [digL_length]
theorem bday_val (d : Nat) (h : d < 100) : valN (bdayL d) = d := by
  unfold bdayL
  split
  · rename_i h'
    rw [show digL d 1 = [UInt8.ofNat (48 + d / 10 ^ 0 % 10)] from rfl]
    have : ([32] ++ [UInt8.ofNat (48 + d / 10 ^ 0 % 10)] : List UInt8) = [32] ++ [UInt8.ofNat (48 + d)] := by congr 4; omega
    rw [this, valN_snoc, dv_ofNat d h']
    have : valN [32] = 0 := by decide
    omega
  · exact valN_dig d 2 h
theorem bday_numb (d : Nat) : (bdayL d).all numb = true := by
  unfold bdayL
  split
  · rw [List.all_append, digL_numb]; decide
  · exact digL_numb d 2
theorem line_list (wd y m d h i s : Nat) (hw : wd < 7) : (lineB wd y m d h i s).data.toList = (dayL wd).take 3 ++ [32] ++ monL m ++ [32] ++ bdayL d ++ [32] ++ clockL h i s ++ [32] ++ digL y 4 := by
  unfold lineB
  simp only [app_list, digB_list, clock_list, monB_list, bday_list, (dayS_list wd hw).1]
theorem line_size (wd y m d h i s : Nat) (hw : wd < 7) (h0 : 1 ≤ m) (h1 : m ≤ 12) : (lineB wd y m d h i s).size = 24 := by
  rw [← len_data, line_list _ _ _ _ _ _ _ hw]; simp only [List.length_append, digL_length, clockL_len, bdayL_len, monL_len h0 h1, (dayS_list wd hw).2]; rfl
theorem line_pos (wd y m d h i s : Nat) (hw : wd < 7) (h0 : 1 ≤ m) (h1 : m ≤ 12) : ((lineB wd y m d h i s).extract 20 24).data.toList = digL y 4 ∧ (lineB wd y m d h i s).extract 4 7 = monB m ∧ ((lineB wd y m d h i s).extract 8 10).data.toList = bdayL d ∧ ((lineB wd y m d h i s).extract 11 19).data.toList = clockL h i s := by
  have hL := line_list wd y m d h i s hw
  have l1 := (dayS_list wd hw).2
  have l2 := monL_len h0 h1
  refine ⟨mid_bytes _ ((dayL wd).take 3 ++ [32] ++ monL m ++ [32] ++ bdayL d ++ [32] ++ clockL h i s ++ [32]) (digL y 4) [] 20 24 ?_ ?_ ?_, bytes_ext (mid_bytes _ ((dayL wd).take 3 ++ [32]) (monL m) ([32] ++ bdayL d ++ [32] ++ clockL h i s ++ [32] ++ digL y 4) 4 7 ?_ ?_ ?_),
    mid_bytes _ ((dayL wd).take 3 ++ [32] ++ monL m ++ [32]) (bdayL d) ([32] ++ clockL h i s ++ [32] ++ digL y 4) 8 10 ?_ ?_ ?_, mid_bytes _ ((dayL wd).take 3 ++ [32] ++ monL m ++ [32] ++ bdayL d ++ [32]) (clockL h i s) ([32] ++ digL y 4) 11 19 ?_ ?_ ?_⟩
  all_goals first | (rw [hL]; done) | (rw [hL]; simp; done) | rfl | (simp only [List.length_append, digL_length, clockL_len, bdayL_len, l1, l2, List.length_cons, List.length_nil]; done)
def longTail (y m d h i s : Nat) : List UInt8 := [44, 32] ++ digL d 2 ++ [45] ++ monL m ++ [45] ++ digL y 2 ++ [32] ++ clockL h i s ++ [32, 71, 77, 84]
theorem long_list (wd y m d h i s : Nat) : (longB wd y m d h i s).data.toList = dayL wd ++ longTail y m d h i s := by
  unfold longB longTail
  simp only [app_list, digB_list, clock_list, monB_list, dayB_list, List.append_assoc]
theorem longTail_len (y m d h i s : Nat) (h0 : 1 ≤ m) (h1 : m ≤ 12) : (longTail y m d h i s).length = 24 := by
  unfold longTail; simp only [List.length_append, digL_length, clockL_len, monL_len h0 h1]; rfl
theorem long_size (wd y m d h i s : Nat) (h0 : 1 ≤ m) (h1 : m ≤ 12) : (longB wd y m d h i s).size = (dayB wd).size + 24 := by
  rw [← len_data, long_list, List.length_append, longTail_len _ _ _ _ _ _ h0 h1, ← dayB_list, len_data]
/-- Behind the day's name. -/
theorem long_tail {wd y m d h i s q n : Nat} (hq : q = (dayB wd).size) (h0 : 1 ≤ m) (h1 : m ≤ 12) (hn : n = (longB wd y m d h i s).size) : ((longB wd y m d h i s).extract q n).data.toList = longTail y m d h i s := by
  subst hq hn
  refine mid_bytes _ (dayL wd) (longTail y m d h i s) [] _ _ (by rw [long_list]; simp) (by rw [← dayB_list, len_data]) ?_
  rw [long_size _ _ _ _ _ _ _ h0 h1, longTail_len _ _ _ _ _ _ h0 h1]
theorem tail_pos {r : ByteArray} {y m d h i s : Nat} (hr : r.data.toList = longTail y m d h i s) (h0 : 1 ≤ m) (h1 : m ≤ 12) : (r.extract 9 11).data.toList = digL y 2 ∧ r.extract 5 8 = monB m ∧ (r.extract 2 4).data.toList = digL d 2 ∧ (r.extract 12 20).data.toList = clockL h i s := by
  have l2 := monL_len h0 h1
  refine ⟨mid_bytes _ ([44, 32] ++ digL d 2 ++ [45] ++ monL m ++ [45]) (digL y 2) ([32] ++ clockL h i s ++ [32, 71, 77, 84]) 9 11 ?_ ?_ ?_, bytes_ext (mid_bytes _ ([44, 32] ++ digL d 2 ++ [45]) (monL m) ([45] ++ digL y 2 ++ [32] ++ clockL h i s ++ [32, 71, 77, 84]) 5 8 ?_ ?_ ?_),
    mid_bytes _ [44, 32] (digL d 2) ([45] ++ monL m ++ [45] ++ digL y 2 ++ [32] ++ clockL h i s ++ [32, 71, 77, 84]) 2 4 ?_ ?_ ?_, mid_bytes _ ([44, 32] ++ digL d 2 ++ [45] ++ monL m ++ [45] ++ digL y 2 ++ [32]) (clockL h i s) [32, 71, 77, 84] 12 20 ?_ ?_ ?_⟩
  all_goals first | (rw [hr]; simp [longTail]; done) | rfl | (simp only [List.length_append, digL_length, clockL_len, l2, List.length_cons, List.length_nil]; done)
end Go.Proofs.YtffjpidjhcnnmabDoor
namespace Go.Proofs.YtffjpidjhcnnmabDoor
set_option linter.unusedVariables false
set_option linter.unusedSimpArgs false
open Go.RowKit

abbrev Form := Nat → Nat → Nat → Nat → Nat → Nat → ByteArray
/-- a is the text of the time t, in the form F, of years up to Z. -/
def IsF (Z : Nat) (F : Form) (a : ByteArray) (t : Int) : Prop := ∃ y m d h i s : Nat, vld y m d h i s ∧ y ≤ Z ∧ t = secs y m d h i s ∧ a = F y m d h i s
/-- What is answered: the time, and true; else 0 and false. -/
def Res (P : Int → Prop) (t : Int) (b : Bool) : Prop := (b = true ∧ P t) ∨ (b = false ∧ t = 0 ∧ ∀ t', ¬ P t')
theorem Res.unique {P : Int → Prop} (hP : ∀ t t', P t → P t' → t = t') {t t' : Int} {b b' : Bool} (h : Res P t b) (h' : Res P t' b') : t = t' ∧ b = b' := by
  rcases h with ⟨rfl, h⟩ | ⟨rfl, rfl, h⟩ <;> rcases h' with ⟨rfl, h'⟩ | ⟨rfl, rfl, h'⟩
  · exact ⟨hP _ _ h h', rfl⟩
  · exact absurd h (h' _)
  · exact absurd h' (h _)
  · exact ⟨rfl, rfl⟩
/-- The parts that are read are those that were written. -/
def Reads (Z : Nat) (F : Form) (a : ByteArray) (Y M D H I S : Int) : Prop := ∀ y m d h i s : Nat, vld y m d h i s → y ≤ Z → a = F y m d h i s → Y = y ∧ M = m ∧ D = d ∧ H = h ∧ I = i ∧ S = s
theorem Reads.unique {Z : Nat} {F : Form} {a : ByteArray} {Y M D H I S : Int} (hr : Reads Z F a Y M D H I S) (t t' : Int) (h : IsF Z F a t) (h' : IsF Z F a t') : t = t' := by
  obtain ⟨y, m, d, h, i, s, hv, hz, e, ea⟩ := h
  obtain ⟨y', m', d', h', i', s', hv', hz', e', ea'⟩ := h'
  obtain ⟨a1, a2, a3, a4, a5, a6⟩ := hr _ _ _ _ _ _ hv hz ea
  obtain ⟨b1, b2, b3, b4, b5, b6⟩ := hr _ _ _ _ _ _ hv' hz' ea'
  rw [e, e', ← a1, ← a2, ← a3, ← a4, ← a5, ← a6, b1, b2, b3, b4, b5, b6]
theorem Reads.none_of {Z : Nat} {F : Form} {a : ByteArray} {Y M D H I S : Int} (hr : Reads Z F a Y M D H I S) (hv : vldB Y M D H I S = false) (t : Int) : ¬ IsF Z F a t := by
  rintro ⟨y, m, d, h, i, s, hv', hz, _, ea⟩
  obtain ⟨rfl, rfl, rfl, rfl, rfl, rfl⟩ := hr _ _ _ _ _ _ hv' hz ea
  rw [vldB_iff.2 hv'] at hv
  cases hv
theorem Reads.none_ne {Z : Nat} {F : Form} {a : ByteArray} {y m d h i s : Nat} (hr : Reads Z F a y m d h i s) (hne : a ≠ F y m d h i s) (t : Int) : ¬ IsF Z F a t := by
  rintro ⟨y', m', d', h', i', s', hv', hz, _, ea⟩
  obtain ⟨e1, e2, e3, e4, e5, e6⟩ := hr _ _ _ _ _ _ hv' hz ea
  apply hne
  rw [ea, Int.ofNat_inj.1 e1, Int.ofNat_inj.1 e2, Int.ofNat_inj.1 e3, Int.ofNat_inj.1 e4, Int.ofNat_inj.1 e5, Int.ofNat_inj.1 e6]
/-- Six whole numbers out of a right day and hour. -/
theorem nats_of {Y M D H I S : Int} (hv : vldB Y M D H I S = true) : ∃ y m d h i s : Nat, Y = y ∧ M = m ∧ D = d ∧ H = h ∧ I = i ∧ S = s ∧ vld y m d h i s := by
  have v := vldB_iff.1 hv
  have v' := v
  unfold vld at v'
  obtain ⟨y, rfl⟩ := Int.eq_ofNat_of_zero_le (a := Y) (by omega)
  obtain ⟨m, rfl⟩ := Int.eq_ofNat_of_zero_le (a := M) (by omega)
  obtain ⟨d, rfl⟩ := Int.eq_ofNat_of_zero_le (a := D) (by omega)
  obtain ⟨h, rfl⟩ := Int.eq_ofNat_of_zero_le (a := H) (by omega)
  obtain ⟨i, rfl⟩ := Int.eq_ofNat_of_zero_le (a := I) (by omega)
  obtain ⟨s, rfl⟩ := Int.eq_ofNat_of_zero_le (a := S) (by omega)
  exact ⟨y, m, d, h, i, s, rfl, rfl, rfl, rfl, rfl, rfl, v⟩
def nS (s : ByteArray) : Int := numS s.data.toList
theorem nS_dig {s : ByteArray} {n p : Nat} (h : s.data.toList = digL n p) (hn : n < 10 ^ p) : nS s = n := by unfold nS; rw [h, numS_dig n p hn]
theorem nS_clock {c : ByteArray} {h i s : Nat} (hc : c.data.toList = clockL h i s) (hh : h < 100) (hi : i < 100) (hs : s < 100) :
    nS (c.extract 0 2) = h ∧ nS (c.extract 3 5) = i ∧ nS (c.extract 6 8) = s := by
  obtain ⟨a, b, d⟩ := clock_pos hc
  exact ⟨nS_dig a hh, nS_dig b hi, nS_dig d hs⟩
def sMon (s : ByteArray) : Int := if monOf s = 0 then -1 else (monOf s : Int)
theorem sMon_mon {m : Nat} (h0 : 1 ≤ m) (h1 : m ≤ 12) : sMon (monB m) = m := by
  unfold sMon; rw [monOf_mon h0 h1, if_neg (by omega)]
theorem vbd {y m d h i s : Nat} (hv : vld y m d h i s) : 1970 ≤ y ∧ y < 10000 ∧ 1 ≤ m ∧ m ≤ 12 ∧ d < 100 ∧ m < 100 ∧ h < 100 ∧ i < 100 ∧ s < 100 ∧ 1 ≤ d := by
  have := dim_bd y m
  unfold vld at hv
  omega
def warcF : Form := warcB
def stampF : Form := stampB
def httpF : Form := fun y m d h i s => httpB (wdN' (secs y m d h i s)) y m d h i s
def longF : Form := fun y m d h i s => longB (wdN' (secs y m d h i s)) y m d h i s
def lineF : Form := fun y m d h i s => lineB (wdN' (secs y m d h i s)) y m d h i s
theorem warc_reads (a : ByteArray) : Reads 9999 warcF a (nval (a.extract 0 4)) (nval (a.extract 5 7)) (nval (a.extract 8 10)) (nval ((a.extract 11 19).extract 0 2)) (nval ((a.extract 11 19).extract 3 5)) (nval ((a.extract 11 19).extract 6 8)) := by
  rintro y m d h i s hv _ rfl
  obtain ⟨_, b2, _, _, b5, b6, b7, b8, b9, _⟩ := vbd hv
  obtain ⟨p1, p2, p3, p4⟩ := warc_pos y m d h i s
  obtain ⟨c1, c2, c3⟩ := clock_nums p4 b7 b8 b9
  unfold warcF
  rw [nval_dig p1 b2, nval_dig p2 b6, nval_dig p3 b5, c1, c2, c3]
  exact ⟨rfl, rfl, rfl, rfl, rfl, rfl⟩
theorem warc_readsS (a : ByteArray) : Reads 9999 warcF a (nS (a.extract 0 4)) (nS (a.extract 5 7)) (nS (a.extract 8 10)) (nS ((a.extract 11 19).extract 0 2)) (nS ((a.extract 11 19).extract 3 5)) (nS ((a.extract 11 19).extract 6 8)) := by
  rintro y m d h i s hv _ rfl
  obtain ⟨_, b2, _, _, b5, b6, b7, b8, b9, _⟩ := vbd hv
  obtain ⟨p1, p2, p3, p4⟩ := warc_pos y m d h i s
  obtain ⟨c1, c2, c3⟩ := nS_clock p4 b7 b8 b9
  unfold warcF
  exact ⟨nS_dig p1 b2, nS_dig p2 b6, nS_dig p3 b5, c1, c2, c3⟩
theorem stamp_reads (a : ByteArray) : Reads 9999 stampF a (nval (a.extract 0 4)) (nval (a.extract 4 6)) (nval (a.extract 6 8)) (nval (a.extract 8 10)) (nval (a.extract 10 12)) (nval (a.extract 12 14)) := by
  rintro y m d h i s hv _ rfl
  obtain ⟨_, b2, _, _, b5, b6, b7, b8, b9, _⟩ := vbd hv
  obtain ⟨p1, p2, p3, p4, p5, p6⟩ := stamp_pos y m d h i s
  unfold stampF
  rw [nval_dig p1 b2, nval_dig p2 b6, nval_dig p3 b5, nval_dig p4 b7, nval_dig p5 b8, nval_dig p6 b9]
  exact ⟨rfl, rfl, rfl, rfl, rfl, rfl⟩
/-- The clock that spec.ReadStamp puts together. -/
def colons (a b c : ByteArray) : ByteArray := a ++ ⟨#[58]⟩ ++ b ++ ⟨#[58]⟩ ++ c
theorem colons_pos {a b c : ByteArray} (ha : a.size = 2) (hb : b.size = 2) (hc : c.size = 2) : (colons a b c).size = 8 ∧ ((colons a b c).extract 0 2) = a ∧ ((colons a b c).extract 3 5) = b ∧ ((colons a b c).extract 6 8) = c := by
  have hl : (colons a b c).data.toList = a.data.toList ++ [58] ++ b.data.toList ++ [58] ++ c.data.toList := by unfold colons; simp only [app_list]
  have la := len_data a
  have lb := len_data b
  have lc := len_data c
  refine ⟨?_, bytes_ext (mid_bytes _ [] a.data.toList ([58] ++ b.data.toList ++ [58] ++ c.data.toList) 0 2 ?_ rfl ?_), bytes_ext (mid_bytes _ (a.data.toList ++ [58]) b.data.toList ([58] ++ c.data.toList) 3 5 ?_ ?_ ?_), bytes_ext (mid_bytes _ (a.data.toList ++ [58] ++ b.data.toList ++ [58]) c.data.toList [] 6 8 ?_ ?_ ?_)⟩
  · rw [← len_data, hl]; simp only [List.length_append, la, lb, lc, List.length_cons, List.length_nil]; omega
  all_goals first | (rw [hl]; done) | (rw [hl]; simp; done) | (simp only [List.length_append, la, lb, lc, List.length_cons, List.length_nil]; omega)
theorem stamp_readsS (a : ByteArray) : Reads 9999 stampF a (nS (a.extract 0 4)) (nS (a.extract 4 6)) (nS (a.extract 6 8)) (nS (a.extract 8 10)) (nS (a.extract 10 12)) (nS (a.extract 12 14)) := by
  rintro y m d h i s hv _ rfl
  obtain ⟨_, b2, _, _, b5, b6, b7, b8, b9, _⟩ := vbd hv
  obtain ⟨p1, p2, p3, p4, p5, p6⟩ := stamp_pos y m d h i s
  unfold stampF
  exact ⟨nS_dig p1 b2, nS_dig p2 b6, nS_dig p3 b5, nS_dig p4 b7, nS_dig p5 b8, nS_dig p6 b9⟩
theorem http_reads (a : ByteArray) : Reads 9999 httpF a (nval (a.extract 12 16)) (monOf (a.extract 8 11)) (nval (a.extract 5 7)) (nval ((a.extract 17 25).extract 0 2)) (nval ((a.extract 17 25).extract 3 5)) (nval ((a.extract 17 25).extract 6 8)) := by
  rintro y m d h i s hv _ rfl
  obtain ⟨_, b2, b3, b4, b5, b6, b7, b8, b9, _⟩ := vbd hv
  obtain ⟨p1, p2, p3, p4⟩ := http_pos (wdN' (secs y m d h i s)) y m d h i s (wdN'_lt _) b3 b4
  obtain ⟨c1, c2, c3⟩ := clock_nums p4 b7 b8 b9
  unfold httpF
  rw [nval_dig p1 b2, p2, monOf_mon b3 b4, nval_dig p3 b5, c1, c2, c3]
  exact ⟨rfl, rfl, rfl, rfl, rfl, rfl⟩
theorem http_readsS (a : ByteArray) : Reads 9999 httpF a (nS (a.extract 12 16)) (sMon (a.extract 8 11)) (nS (a.extract 5 7)) (nS ((a.extract 17 25).extract 0 2)) (nS ((a.extract 17 25).extract 3 5)) (nS ((a.extract 17 25).extract 6 8)) := by
  rintro y m d h i s hv _ rfl
  obtain ⟨_, b2, b3, b4, b5, b6, b7, b8, b9, _⟩ := vbd hv
  obtain ⟨p1, p2, p3, p4⟩ := http_pos (wdN' (secs y m d h i s)) y m d h i s (wdN'_lt _) b3 b4
  obtain ⟨c1, c2, c3⟩ := nS_clock p4 b7 b8 b9
  unfold httpF
  rw [p2]
  exact ⟨nS_dig p1 b2, sMon_mon b3 b4, nS_dig p3 b5, c1, c2, c3⟩
theorem line_reads (a : ByteArray) : Reads 9999 lineF a (nval (a.extract 20 24)) (monOf (a.extract 4 7)) (nval (a.extract 8 10)) (nval ((a.extract 11 19).extract 0 2)) (nval ((a.extract 11 19).extract 3 5)) (nval ((a.extract 11 19).extract 6 8)) := by
  rintro y m d h i s hv _ rfl
  obtain ⟨_, b2, b3, b4, b5, b6, b7, b8, b9, _⟩ := vbd hv
  obtain ⟨p1, p2, p3, p4⟩ := line_pos (wdN' (secs y m d h i s)) y m d h i s (wdN'_lt _) b3 b4
  obtain ⟨c1, c2, c3⟩ := clock_nums p4 b7 b8 b9
  unfold lineF
  have e3 : nval ((lineB (wdN' (secs y m d h i s)) y m d h i s).extract 8 10) = d := by unfold nval; rw [p3, bday_val d b5]
  rw [nval_dig p1 b2, p2, monOf_mon b3 b4, e3, c1, c2, c3]
  exact ⟨rfl, rfl, rfl, rfl, rfl, rfl⟩
theorem line_readsS (a : ByteArray) : Reads 9999 lineF a (nS (a.extract 20 24)) (sMon (a.extract 4 7)) (nS (a.extract 8 10)) (nS ((a.extract 11 19).extract 0 2)) (nS ((a.extract 11 19).extract 3 5)) (nS ((a.extract 11 19).extract 6 8)) := by
  rintro y m d h i s hv _ rfl
  obtain ⟨_, b2, b3, b4, b5, b6, b7, b8, b9, _⟩ := vbd hv
  obtain ⟨p1, p2, p3, p4⟩ := line_pos (wdN' (secs y m d h i s)) y m d h i s (wdN'_lt _) b3 b4
  obtain ⟨c1, c2, c3⟩ := nS_clock p4 b7 b8 b9
  unfold lineF
  rw [p2]
  refine ⟨nS_dig p1 b2, sMon_mon b3 b4, ?_, c1, c2, c3⟩
  unfold nS numS
  rw [p3, if_pos (bday_numb d), bday_val d b5]
theorem yOf_mod {y : Nat} (h0 : 1970 ≤ y) (h1 : y ≤ 2069) : yOf (y % 100) = y := by unfold yOf; split <;> omega
theorem yOf_le {n : Nat} (h : n < 100) : yOf n ≤ 2069 := by unfold yOf; split <;> omega
theorem long_reads (a : ByteArray) (q : Nat) (hq : a.size = q + 24) : Reads 2069 longF a (yOf (nval ((a.extract q a.size).extract 9 11))) (monOf ((a.extract q a.size).extract 5 8)) (nval ((a.extract q a.size).extract 2 4)) (nval (((a.extract q a.size).extract 12 20).extract 0 2)) (nval (((a.extract q a.size).extract 12 20).extract 3 5)) (nval (((a.extract q a.size).extract 12 20).extract 6 8)) := by
  intro y m d h i s hv hz ha
  obtain ⟨b1, b2, b3, b4, b5, b6, b7, b8, b9, _⟩ := vbd hv
  have hsz := long_size (wdN' (secs y m d h i s)) y m d h i s b3 b4
  have hr : (a.extract q a.size).data.toList = longTail y m d h i s := by
    rw [ha]
    refine long_tail ?_ b3 b4 rfl
    rw [ha] at hq
    unfold longF at hq
    omega
  obtain ⟨p1, p2, p3, p4⟩ := tail_pos hr b3 b4
  obtain ⟨c1, c2, c3⟩ := clock_nums p4 b7 b8 b9
  rw [nval_mod p1, p2, monOf_mon b3 b4, nval_dig p3 b5, c1, c2, c3, show (10 : Nat) ^ 2 = 100 from rfl, yOf_mod b1 hz]
  exact ⟨rfl, rfl, rfl, rfl, rfl, rfl⟩
/-- The year that spec's reader makes of two signs. -/
def sYear (n : Int) : Int := if 70 ≤ n then n + 1900 else n + 2000
theorem sYear_mod {y : Nat} (h0 : 1970 ≤ y) (h1 : y ≤ 2069) : sYear ((y % 100 : Nat) : Int) = y := by unfold sYear; split <;> omega
theorem nS_mod {s : ByteArray} {n p : Nat} (h : s.data.toList = digL n p) : nS s = ((n % 10 ^ p : Nat) : Int) := by unfold nS numS; rw [h, if_pos (digL_numb n p), valN_digL]
/-- The same places, counted from two bytes further on. -/
theorem ext_shift (a : ByteArray) (q k t : Nat) (h2 : q + 2 ≤ a.size) (ht : 2 + t ≤ a.size - q) : ((a.extract (q + 2) a.size).extract k t) = ((a.extract q a.size).extract (2 + k) (2 + t)) := by
  apply bytes_ext
  rw [extract_list, extract_list, extract_list, extract_list]
  have hl := len_data a
  rw [List.take_of_length_le (by omega : a.data.toList.length ≤ a.size)]
  generalize a.data.toList = L
  have e : List.drop (q + 2) L = List.drop 2 (List.drop q L) := by rw [List.drop_drop]
  rw [e]
  generalize List.drop q L = R
  rw [List.take_drop, List.drop_drop]
end Go.Proofs.YtffjpidjhcnnmabDoor
namespace Go.Proofs.YtffjpidjhcnnmabDoor
set_option linter.unusedVariables false
set_option linter.unusedSimpArgs false
open Go.RowKit
/-! When a text is a date of records. -/
def wqY (a : ByteArray) : Nat := nval (a.extract 0 4)
def wqM (a : ByteArray) : Nat := nval (a.extract 5 7)
def wqD (a : ByteArray) : Nat := nval (a.extract 8 10)
def wqH (a : ByteArray) : Nat := nval ((a.extract 11 19).extract 0 2)
def wqI (a : ByteArray) : Nat := nval ((a.extract 11 19).extract 3 5)
def wqS (a : ByteArray) : Nat := nval ((a.extract 11 19).extract 6 8)
def wqO (a : ByteArray) : Bool := vldB (wqY a) (wqM a) (wqD a) (wqH a) (wqI a) (wqS a) && eqB a (warcB (wqY a) (wqM a) (wqD a) (wqH a) (wqI a) (wqS a))
def wqN (a : ByteArray) : Int := if wqO a = true then secs (wqY a) (wqM a) (wqD a) (wqH a) (wqI a) (wqS a) else 0
theorem wq_res (a : ByteArray) : Res (IsF 9999 warcF a) (wqN a) (wqO a) := by
  have hr := warc_reads a
  cases h : wqO a
  · refine .inr ⟨rfl, by unfold wqN; rw [h]; rfl, ?_⟩
    rintro t ⟨y, m, d, hh, i, s, hv, hz, ht, ha⟩
    obtain ⟨e1, e2, e3, e4, e5, e6⟩ := hr _ _ _ _ _ _ hv hz ha
    have f1 := Int.ofNat_inj.1 e1
    have f2 := Int.ofNat_inj.1 e2
    have f3 := Int.ofNat_inj.1 e3
    have f4 := Int.ofNat_inj.1 e4
    have f5 := Int.ofNat_inj.1 e5
    have f6 := Int.ofNat_inj.1 e6
    unfold wqO wqY wqM wqD wqH wqI wqS at h
    rw [f1, f2, f3, f4, f5, f6, vldB_iff.2 hv, Bool.true_and] at h
    unfold warcF at ha
    rw [← ha, eqB_self] at h
    cases h
  · have h' := h
    unfold wqO at h'
    rw [Bool.and_eq_true] at h'
    have hv := vldB_iff.1 h'.1
    have hv' := hv
    unfold vld at hv'
    refine .inl ⟨rfl, _, _, _, _, _, _, hv, by omega, by unfold wqN; rw [if_pos h], eqB_iff.1 h'.2⟩
theorem wq_of {a : ByteArray} {t : Int} (h : IsF 9999 warcF a t) : wqO a = true ∧ wqN a = t := by
  obtain ⟨e1, e2⟩ := Res.unique (warc_reads a).unique (wq_res a) (.inl ⟨rfl, h⟩)
  exact ⟨e2, e1⟩
theorem wq_same {a : ByteArray} {t : Int} {b : Bool} (h : Res (IsF 9999 warcF a) t b) : t = wqN a ∧ b = wqO a := Res.unique (warc_reads a).unique h (wq_res a)
/-! A line. -/
def llnO (t : ByteArray) : Bool := hasS 58 t && tokB (uptS 58 t) && plnB (trimB (bhS 58 t))
def llnV (t : ByteArray) : Fd := (foldB (uptS 58 t), trimB (bhS 58 t))
def lkQ (s : ByteArray) (k : Nat) : Bool := decide (tlC s k = 0) && decide (tlE s k - k ≤ 300)
theorem lkQ_iff {s : ByteArray} {k : Nat} : lkQ s k = true ↔ tlC s k = 0 ∧ tlE s k - k ≤ 300 := by unfold lkQ; simp
/-- The lines up to an empty one, and the place behind it; f: how many lines at most. -/
def lsR (s : ByteArray) : Nat → Nat → Option (List Fd × Nat)
  | 0, _ => none
  | f + 1, k => if lkQ s k = true then (if tlE s k = k then some ([], k + 2) else if llnO (lineAt s k) = true then (lsR s f (tlE s k + 2)).map (fun p => (llnV (lineAt s k) :: p.1, p.2)) else none) else none
theorem lsR_fuel (s : ByteArray) : ∀ (f g k : Nat), k ≤ s.size → s.size + 1 - k ≤ f → s.size + 1 - k ≤ g → lsR s f k = lsR s g k := by
  intro f
  induction f with
  | zero => intro g k hk h0 _; omega
  | succ f ih =>
    intro g k hk h0 h1
    match g, h1 with
    | 0, h1 => omega
    | g + 1, h1 =>
      unfold lsR
      by_cases hq : lkQ s k = true
      · have h2 := tlE_ok hk (lkQ_iff.1 hq).1
        have h3 := tlE_ge s k
        rw [if_pos hq, if_pos hq, ih g (tlE s k + 2) h2 (by omega) (by omega)]
      · rw [if_neg hq, if_neg hq]
def lsF (s : ByteArray) (k : Nat) : Option (List Fd × Nat) := lsR s (s.size + 1) k
theorem lsF_step {s : ByteArray} {k : Nat} (hk : k ≤ s.size) : lsF s k = if lkQ s k = true then (if tlE s k = k then some ([], k + 2) else if llnO (lineAt s k) = true then (lsF s (tlE s k + 2)).map (fun p => (llnV (lineAt s k) :: p.1, p.2)) else none) else none := by
  by_cases hq : lkQ s k = true
  · have h2 := tlE_ok hk (lkQ_iff.1 hq).1
    have h3 := tlE_ge s k
    show lsR s (s.size + 1) k = _
    unfold lsR
    rw [if_pos hq, if_pos hq, lsR_fuel s s.size (s.size + 1) (tlE s k + 2) h2 (by omega) (by omega)]
    rfl
  · show lsR s (s.size + 1) k = _
    unfold lsR
    rw [if_neg hq, if_neg hq]
theorem lsF_bad {s : ByteArray} {k : Nat} (hk : k ≤ s.size) (h : lkQ s k = false) : lsF s k = none := by rw [lsF_step hk, if_neg (by rw [h]; decide)]
theorem lsF_end {s : ByteArray} {k : Nat} (hk : k ≤ s.size) (h : lkQ s k = true) (he : tlE s k = k) : lsF s k = some ([], k + 2) := by rw [lsF_step hk, if_pos h, if_pos he]
theorem lsF_no {s : ByteArray} {k : Nat} (hk : k ≤ s.size) (h : lkQ s k = true) (he : ¬ tlE s k = k) (ho : llnO (lineAt s k) = false) : lsF s k = none := by rw [lsF_step hk, if_pos h, if_neg he, if_neg (by rw [ho]; decide)]
theorem lsF_next {s : ByteArray} {k : Nat} (hk : k ≤ s.size) (h : lkQ s k = true) (he : ¬ tlE s k = k) (ho : llnO (lineAt s k) = true) : lsF s k = (lsF s (tlE s k + 2)).map (fun p => (llnV (lineAt s k) :: p.1, p.2)) := by rw [lsF_step hk, if_pos h, if_neg he, if_pos ho]
theorem llnV_le {s : ByteArray} {k : Nat} (hk : k ≤ s.size) (h : lkQ s k = true) : (llnV (lineAt s k)).1.size ≤ 300 ∧ (llnV (lineAt s k)).2.size ≤ 300 := by
  have h1 := lineAt_size hk
  have h2 := (lkQ_iff.1 h).2
  have h3 := uptS_size 58 (lineAt s k)
  have h4 := bhS_size 58 (lineAt s k)
  have h5 := trimB_size (bhS 58 (lineAt s k))
  have h6 := foldB_size (uptS 58 (lineAt s k))
  unfold llnV
  constructor
  · show (foldB (uptS 58 (lineAt s k))).size ≤ 300; omega
  · show (trimB (bhS 58 (lineAt s k))).size ≤ 300; omega
theorem lsR_le {s : ByteArray} : ∀ (f k : Nat) (l : List Fd) (e : Nat), k ≤ s.size → lsR s f k = some (l, e) → e ≤ s.size ∧ l.length + k < e ∧ ∀ x ∈ l, x.1.size ≤ 300 ∧ x.2.size ≤ 300 := by
  intro f
  induction f with
  | zero => intro k l e _ h; cases h
  | succ f ih =>
    intro k l e hk h
    unfold lsR at h
    by_cases hq : lkQ s k = true
    · have h2 := tlE_ok hk (lkQ_iff.1 hq).1
      have h3 := tlE_ge s k
      rw [if_pos hq] at h
      by_cases he : tlE s k = k
      · rw [if_pos he] at h
        obtain ⟨rfl, rfl⟩ := Prod.mk.inj (Option.some.inj h)
        exact ⟨by omega, by simp, fun x hx => absurd hx List.not_mem_nil⟩
      · rw [if_neg he] at h
        by_cases ho : llnO (lineAt s k) = true
        · rw [if_pos ho] at h
          obtain ⟨⟨l', e'⟩, h4, h5⟩ := Option.map_eq_some_iff.1 h
          obtain ⟨rfl, rfl⟩ := Prod.mk.inj h5
          obtain ⟨i1, i2, i3⟩ := ih _ _ _ h2 h4
          refine ⟨i1, ?_, ?_⟩
          · simp only [List.length_cons]; omega
          · intro x hx
            rcases List.mem_cons.1 hx with rfl | hx
            · exact llnV_le hk hq
            · exact i3 x hx
        · rw [if_neg ho] at h; cases h
    · rw [if_neg hq] at h; cases h
theorem lsF_le {s : ByteArray} {k : Nat} {l : List Fd} {e : Nat} (hk : k ≤ s.size) (h : lsF s k = some (l, e)) : e ≤ s.size ∧ l.length + k < e ∧ ∀ x ∈ l, x.1.size ≤ 300 ∧ x.2.size ≤ 300 := lsR_le _ _ _ _ hk h
/-! The one line of a name. -/
def hitL (l : List Fd) (n : ByteArray) : List Fd := l.filter fun x => eqB x.1 n
def onlyV (l : List Fd) (n : ByteArray) : ByteArray := if (hitL l n).length = 1 then ((hitL l n).getD 0 (⟨#[]⟩, ⟨#[]⟩)).2 else ⟨#[]⟩
/-- The value that the last line of that name has, and how many there are. -/
def lastV (l : List Fd) (n : ByteArray) : ByteArray := ((hitL l n).getLast?.map Prod.snd).getD ⟨#[]⟩
theorem hitL_snoc (l : List Fd) (x : Fd) (n : ByteArray) : hitL (l ++ [x]) n = if eqB x.1 n = true then hitL l n ++ [x] else hitL l n := by
  unfold hitL
  rw [List.filter_append]
  by_cases h : eqB x.1 n = true
  · rw [if_pos h]; simp [h]
  · rw [if_neg h]; simp [h]
theorem onlyV_last (l : List Fd) (n : ByteArray) : onlyV l n = if (hitL l n).length = 1 then lastV l n else ⟨#[]⟩ := by
  unfold onlyV lastV
  by_cases h : (hitL l n).length = 1
  · rw [if_pos h, if_pos h]
    match hh : hitL l n, h with
    | [x], _ => rfl
  · rw [if_neg h, if_neg h]
theorem onlyV_le {l : List Fd} {N : Nat} (h : ∀ x ∈ l, x.1.size ≤ N ∧ x.2.size ≤ N) (n : ByteArray) : (onlyV l n).size ≤ N := by
  unfold onlyV
  by_cases h1 : (hitL l n).length = 1
  · rw [if_pos h1]
    match hh : hitL l n, h1 with
    | [x], _ =>
      have hx : x ∈ hitL l n := by rw [hh]; exact List.mem_singleton.2 rfl
      exact (h x (List.mem_filter.1 hx).1).2
  · rw [if_neg h1]; exact Nat.zero_le _
def brQ (s : ByteArray) : Bool := decide (3 ≤ s.size) && decide ((at8 s 0).toNat = 60) && decide ((at8 s (s.size - 1)).toNat = 62)
/-- warc-type, warc-record-id, warc-date, content-length -/
def tyF : ByteArray := ⟨#[119, 97, 114, 99, 45, 116, 121, 112, 101]⟩
def idF : ByteArray := ⟨#[119, 97, 114, 99, 45, 114, 101, 99, 111, 114, 100, 45, 105, 100]⟩
def daF : ByteArray := ⟨#[119, 97, 114, 99, 45, 100, 97, 116, 101]⟩
def lenF : ByteArray := ⟨#[99, 111, 110, 116, 101, 110, 116, 45, 108, 101, 110, 103, 116, 104]⟩
def sizeN (l : List Fd) : Int := rdecN (onlyV l lenF)
def sizeO (l : List Fd) : Bool := wqO (onlyV l daF) && rdecOk (onlyV l lenF) && tokB (onlyV l tyF) && brQ (onlyV l idF)
def verB : ByteArray := ⟨#[87, 65, 82, 67, 47, 49, 46, 49]⟩
def crlf2B : ByteArray := ⟨#[13, 10, 13, 10]⟩
/-- Behind the lines: the length that is told, the block and what ends it. -/
def finR (s : ByteArray) (l : List Fd) (e : Nat) : Option (ByteArray × Nat) :=
  if sizeO l = true ∧ (e : Int) + sizeN l + 4 ≤ (s.size : Int) ∧ eqB (s.extract (e + (sizeN l).toNat) (e + (sizeN l).toNat + 4)) crlf2B = true then some (s.extract e (e + (sizeN l).toNat), e + (sizeN l).toNat + 4) else none
def grV (s : ByteArray) (k : Nat) : Bool := decide (tlC s k = 0) && eqB (lineAt s k) verB
/-- A record as the looser reader takes it: its lines, its block, the place behind it. -/
def grF (s : ByteArray) (k : Nat) : Option (List Fd × ByteArray × Nat) :=
  if grV s k = true then (lsF s (tlE s k + 2)).bind fun p => (finR s p.1 p.2).map fun q => (p.1, q.1, q.2) else none
theorem rdecN_nonneg (s : ByteArray) : 0 ≤ rdecN s := Int.natCast_nonneg _
theorem sizeN_nonneg (l : List Fd) : 0 ≤ sizeN l := rdecN_nonneg _
theorem finR_le {s : ByteArray} {l : List Fd} {e : Nat} {b : ByteArray} {n : Nat} (h : finR s l e = some (b, n)) : e + 4 ≤ n ∧ n ≤ s.size := by
  unfold finR at h
  split at h
  · rename_i hh
    obtain ⟨rfl, rfl⟩ := Prod.mk.inj (Option.some.inj h)
    have := sizeN_nonneg l
    omega
  · cases h
theorem grV_ok {s : ByteArray} {k : Nat} (hk : k ≤ s.size) (h : grV s k = true) : tlE s k + 2 ≤ s.size := by
  unfold grV at h
  rw [Bool.and_eq_true, decide_eq_true_eq] at h
  exact tlE_ok hk h.1
theorem grF_le {s : ByteArray} {k : Nat} {l : List Fd} {b : ByteArray} {n : Nat} (hk : k ≤ s.size) (h : grF s k = some (l, b, n)) : k < n ∧ n ≤ s.size := by
  unfold grF at h
  split at h
  · rename_i hv
    have h1 := grV_ok hk hv
    have h2 := tlE_ge s k
    obtain ⟨⟨l', e⟩, h3, h4⟩ := Option.bind_eq_some_iff.1 h
    obtain ⟨⟨b', n'⟩, h5, h6⟩ := Option.map_eq_some_iff.1 h4
    obtain ⟨_, h7⟩ := Prod.mk.inj h6
    obtain ⟨_, rfl⟩ := Prod.mk.inj h7
    have h8 := finR_le h5
    have h9 := lsF_le h1 h3
    omega
  · cases h
/-- How many records from k on, where f bounds them; none where one of them is none. -/
def grmR (s : ByteArray) : Nat → Nat → Option Nat
  | 0, _ => none
  | f + 1, k => if s.size ≤ k then some 0 else (grF s k).bind fun p => (grmR s f p.2.2).map (· + 1)
theorem grmR_fuel (s : ByteArray) : ∀ (f g k : Nat), k ≤ s.size → s.size + 1 - k ≤ f → s.size + 1 - k ≤ g → grmR s f k = grmR s g k := by
  intro f
  induction f with
  | zero => intro g k hk h0 _; omega
  | succ f ih =>
    intro g k hk h0 h1
    match g, h1 with
    | 0, h1 => omega
    | g + 1, h1 =>
      unfold grmR
      by_cases hq : s.size ≤ k
      · rw [if_pos hq, if_pos hq]
      · rw [if_neg hq, if_neg hq]
        cases hg : grF s k with
        | none => rfl
        | some p =>
          obtain ⟨l, b, n⟩ := p
          have h2 := grF_le hk hg
          show (grmR s f n).map _ = (grmR s g n).map _
          rw [ih g n h2.2 (by omega) (by omega)]
def grmF (s : ByteArray) (k : Nat) : Option Nat := grmR s (s.size + 1) k
theorem grmF_end {s : ByteArray} {k : Nat} (h : s.size ≤ k) : grmF s k = some 0 := by
  show grmR s (s.size + 1) k = _
  unfold grmR
  rw [if_pos h]
theorem grmF_step {s : ByteArray} {k : Nat} (hk : k < s.size) : grmF s k = (grF s k).bind fun p => (grmF s p.2.2).map (· + 1) := by
  show grmR s (s.size + 1) k = _
  unfold grmR
  rw [if_neg (by omega)]
  cases hg : grF s k with
  | none => rfl
  | some p =>
    obtain ⟨l, b, n⟩ := p
    have h2 := grF_le (Nat.le_of_lt hk) hg
    show (grmR s s.size n).map _ = (grmR s (s.size + 1) n).map _
    rw [grmR_fuel s s.size (s.size + 1) n h2.2 (by omega) (by omega)]
def gramV (s : ByteArray) : Int := if s.size ≤ 60000 then (match grmF s 0 with | some n => (n : Int) | none => -1) else -1
/-! The same as the specification takes it: line by line. -/
def cntL (l : List Fd) (n : ByteArray) : Nat := (hitL l n).length
def spQ (x : Fd) : Bool :=
  if eqB x.1 tyF = true then tokB x.2 else if eqB x.1 idF = true then brQ x.2 else if eqB x.1 daF = true then wqO x.2 else if eqB x.1 lenF = true then rdecOk x.2 else true
theorem eqB_not {a b c : ByteArray} (h : eqB a b = true) (hbc : eqB b c = false) : eqB a c = false := by rw [eqB_iff.1 h]; exact hbc
theorem onlyV_mem {l : List Fd} {n : ByteArray} {x : Fd} (hx : x ∈ l) (hn : eqB x.1 n = true) (h1 : cntL l n = 1) : onlyV l n = x.2 := by
  unfold onlyV
  unfold cntL at h1
  rw [if_pos h1]
  have hm : x ∈ hitL l n := List.mem_filter.2 ⟨hx, hn⟩
  match hh : hitL l n, h1 with
  | [y], _ =>
    rw [hh, List.mem_singleton] at hm
    rw [hm]; rfl
theorem onlyV_ex {l : List Fd} {n : ByteArray} (h1 : cntL l n = 1) : ∃ x ∈ l, eqB x.1 n = true ∧ onlyV l n = x.2 := by
  unfold cntL at h1
  match hh : hitL l n, h1 with
  | [y], _ =>
    have hm : y ∈ hitL l n := by rw [hh]; exact List.mem_singleton.2 rfl
    obtain ⟨h2, h3⟩ := List.mem_filter.1 hm
    exact ⟨y, h2, h3, onlyV_mem h2 h3 (by unfold cntL; rw [hh]; rfl)⟩
theorem onlyV_none {l : List Fd} {n : ByteArray} (h1 : cntL l n ≠ 1) : onlyV l n = ⟨#[]⟩ := by
  unfold onlyV; unfold cntL at h1; rw [if_neg h1]
theorem tokB_emp : tokB ⟨#[]⟩ = false := by kernel_rfl
theorem brQ_emp : brQ ⟨#[]⟩ = false := by kernel_rfl
theorem wqO_emp : wqO ⟨#[]⟩ = false := by kernel_rfl
theorem rdecOk_emp : rdecOk ⟨#[]⟩ = false := by decide +kernel
theorem sizeO_iff (l : List Fd) : sizeO l = true ↔ (cntL l tyF = 1 ∧ cntL l idF = 1 ∧ cntL l daF = 1 ∧ cntL l lenF = 1) ∧ ∀ x ∈ l, spQ x = true := by
  constructor
  · intro h
    unfold sizeO at h
    rw [Bool.and_eq_true, Bool.and_eq_true, Bool.and_eq_true] at h
    obtain ⟨⟨⟨h1, h2⟩, h3⟩, h4⟩ := h
    have c3 : cntL l daF = 1 := by
      by_cases hc : cntL l daF = 1
      · exact hc
      · rw [onlyV_none hc, wqO_emp] at h1; cases h1
    have c4 : cntL l lenF = 1 := by
      by_cases hc : cntL l lenF = 1
      · exact hc
      · rw [onlyV_none hc, rdecOk_emp] at h2; cases h2
    have c1 : cntL l tyF = 1 := by
      by_cases hc : cntL l tyF = 1
      · exact hc
      · rw [onlyV_none hc, tokB_emp] at h3; cases h3
    have c2 : cntL l idF = 1 := by
      by_cases hc : cntL l idF = 1
      · exact hc
      · rw [onlyV_none hc, brQ_emp] at h4; cases h4
    refine ⟨⟨c1, c2, c3, c4⟩, fun x hx => ?_⟩
    unfold spQ
    by_cases e1 : eqB x.1 tyF = true
    · rw [if_pos e1, ← onlyV_mem hx e1 c1]; exact h3
    · rw [if_neg e1]
      by_cases e2 : eqB x.1 idF = true
      · rw [if_pos e2, ← onlyV_mem hx e2 c2]; exact h4
      · rw [if_neg e2]
        by_cases e3 : eqB x.1 daF = true
        · rw [if_pos e3, ← onlyV_mem hx e3 c3]; exact h1
        · rw [if_neg e3]
          by_cases e4 : eqB x.1 lenF = true
          · rw [if_pos e4, ← onlyV_mem hx e4 c4]; exact h2
          · rw [if_neg e4]
  · rintro ⟨⟨c1, c2, c3, c4⟩, h⟩
    obtain ⟨x1, m1, n1, o1⟩ := onlyV_ex c1
    obtain ⟨x2, m2, n2, o2⟩ := onlyV_ex c2
    obtain ⟨x3, m3, n3, o3⟩ := onlyV_ex c3
    obtain ⟨x4, m4, n4, o4⟩ := onlyV_ex c4
    unfold sizeO
    rw [o1, o2, o3, o4]
    have k1 := h x1 m1
    have k2 := h x2 m2
    have k3 := h x3 m3
    have k4 := h x4 m4
    unfold spQ at k1 k2 k3 k4
    rw [if_pos n1] at k1
    rw [if_neg (by rw [eqB_not n2 (by kernel_rfl)]; decide), if_pos n2] at k2
    rw [if_neg (by rw [eqB_not n3 (by kernel_rfl)]; decide), if_neg (by rw [eqB_not n3 (by kernel_rfl)]; decide), if_pos n3] at k3
    rw [if_neg (by rw [eqB_not n4 (by kernel_rfl)]; decide), if_neg (by rw [eqB_not n4 (by kernel_rfl)]; decide), if_neg (by rw [eqB_not n4 (by kernel_rfl)]; decide), if_pos n4] at k4
    rw [k1, k2, k3, k4]; rfl
end Go.Proofs.YtffjpidjhcnnmabDoor
namespace Go.Proofs.YtffjpidjhcnnmabDoor
set_option linter.unusedVariables false
set_option linter.unusedSimpArgs false
open Go.RowKit

/-- A word turned left by n bits. -/
def rotl (x n : Nat) : Nat := (x * 2 ^ n % 4294967296) ||| (x / 2 ^ (32 - n))
theorem rotl_lt (x n : Nat) (hx : x < 4294967296) : rotl x n < 4294967296 := by
  have h1 : x * 2 ^ n % 4294967296 < 2 ^ 32 := Nat.mod_lt _ (by decide)
  have h2 : x / 2 ^ (32 - n) < 2 ^ 32 := Nat.lt_of_le_of_lt (Nat.div_le_self _ _) (by omega)
  exact Nat.or_lt_two_pow h1 h2
theorem and_lt32 {a b : Nat} (h : b < 4294967296) : a &&& b < 4294967296 := Nat.and_lt_two_pow (n := 32) _ (by omega)
theorem or_lt32 {a b : Nat} (ha : a < 4294967296) (hb : b < 4294967296) : a ||| b < 4294967296 := Nat.or_lt_two_pow (n := 32) (by omega) (by omega)
theorem xor_lt32 {a b : Nat} (ha : a < 4294967296) (hb : b < 4294967296) : a ^^^ b < 4294967296 := Nat.xor_lt_two_pow (n := 32) (by omega) (by omega)

theorem wrap_i64_nat (n : Nat) (h : n < 9223372036854775808) : IntKind.i64.wrap (n : Int) = n := by rw [IntKind.wrap_i64]; omega
theorem ofInt_64 (a : Nat) (ha : a < 9223372036854775808) : (BitVec.ofInt 64 (a : Int)).toNat = a := by
  rw [BitVec.ofInt_natCast, BitVec.toNat_ofNat]; exact Nat.mod_eq_of_lt (by omega)
theorem i64_and_nat (a b : Nat) (ha : a < 9223372036854775808) (hb : b < 9223372036854775808) : bits .and .i64 (a : Int) (b : Int) = ((a &&& b : Nat) : Int) := by
  have hx : a &&& b < 2 ^ 63 := Nat.and_lt_two_pow _ (by omega)
  show IntKind.i64.wrap ((BitVec.ofInt 64 (a : Int) &&& BitVec.ofInt 64 (b : Int)).toNat : Int) = _
  rw [BitVec.toNat_and, ofInt_64 a ha, ofInt_64 b hb, wrap_i64_nat _ (by omega)]
theorem i64_or_nat (a b : Nat) (ha : a < 9223372036854775808) (hb : b < 9223372036854775808) : bits .or .i64 (a : Int) (b : Int) = ((a ||| b : Nat) : Int) := by
  have hx : a ||| b < 2 ^ 63 := Nat.or_lt_two_pow (by omega) (by omega)
  show IntKind.i64.wrap ((BitVec.ofInt 64 (a : Int) ||| BitVec.ofInt 64 (b : Int)).toNat : Int) = _
  rw [BitVec.toNat_or, ofInt_64 a ha, ofInt_64 b hb, wrap_i64_nat _ (by omega)]
theorem i64_xor_nat (a b : Nat) (ha : a < 9223372036854775808) (hb : b < 9223372036854775808) : bits .xor .i64 (a : Int) (b : Int) = ((a ^^^ b : Nat) : Int) := by
  have hx : a ^^^ b < 2 ^ 63 := Nat.xor_lt_two_pow (by omega) (by omega)
  show IntKind.i64.wrap ((BitVec.ofInt 64 (a : Int) ^^^ BitVec.ofInt 64 (b : Int)).toNat : Int) = _
  rw [BitVec.toNat_xor, ofInt_64 a ha, ofInt_64 b hb, wrap_i64_nat _ (by omega)]

theorem mask32 (x : Nat) : x &&& 4294967295 = x % 4294967296 := Nat.and_two_pow_sub_one_eq_mod x 32
theorem mask32_i64 (x : Nat) (hx : x < 9223372036854775808) : bits .and .i64 (x : Int) 4294967295 = ((x % 4294967296 : Nat) : Int) := by
  have := i64_and_nat x 4294967295 hx (by decide)
  rw [mask32] at this
  exact this
theorem pow31 {n : Nat} (h : n ≤ 31) : 2 ^ n ≤ 2147483648 := Nat.pow_le_pow_right (n := 2) (by decide) h
theorem mul_pow_lt {x n : Nat} (hx : x < 4294967296) (h : n ≤ 31) : x * 2 ^ n < 9223372036854775808 := by
  have h1 := pow31 h
  have h2 : x * 2 ^ n ≤ 4294967295 * 2147483648 := Nat.mul_le_mul (by omega) h1
  omega
/-- The turn as it is made on ints of 64 bits. -/
theorem turn_i64 (x n : Nat) (hx : x < 4294967296) (hn : n ≤ 31) :
    bits .and .i64 (bits .or .i64 ((x : Int) * 2 ^ n) ((x : Int) / 2 ^ (32 - n))) 4294967295 = ((rotl x n : Nat) : Int) := by
  have h1 := mul_pow_lt hx hn
  have h2 : x / 2 ^ (32 - n) < 4294967296 := Nat.lt_of_le_of_lt (Nat.div_le_self _ _) hx
  have e1 : (x : Int) * 2 ^ n = ((x * 2 ^ n : Nat) : Int) := by simp
  have e2 : (x : Int) / 2 ^ (32 - n) = ((x / 2 ^ (32 - n) : Nat) : Int) := by simp
  have h3 : x * 2 ^ n ||| x / 2 ^ (32 - n) < 2 ^ 63 := Nat.or_lt_two_pow (by omega) (by omega)
  rw [e1, e2, i64_or_nat _ _ h1 (by omega), mask32_i64 _ (by omega)]
  unfold rotl
  have e3 : (x * 2 ^ n ||| x / 2 ^ (32 - n)) % 2 ^ 32 = (x * 2 ^ n) % 2 ^ 32 ||| (x / 2 ^ (32 - n)) % 2 ^ 32 := Nat.or_mod_two_pow
  rw [show (4294967296 : Nat) = 2 ^ 32 by decide, e3, Nat.mod_eq_of_lt (show x / 2 ^ (32 - n) < 2 ^ 32 by omega)]
/-- The turn as it is made on words. -/
theorem turn_u32 (x n : Nat) (hx : x < 4294967296) :
    bits .or .u32 (((x : Int) * 2 ^ n) % 4294967296) ((x : Int) / 2 ^ (32 - n)) = ((rotl x n : Nat) : Int) := by
  have h2 : x / 2 ^ (32 - n) < 4294967296 := Nat.lt_of_le_of_lt (Nat.div_le_self _ _) hx
  have e1 : ((x : Int) * 2 ^ n) % 4294967296 = ((x * 2 ^ n % 4294967296 : Nat) : Int) := by simp
  have e2 : (x : Int) / 2 ^ (32 - n) = ((x / 2 ^ (32 - n) : Nat) : Int) := by simp
  rw [e1, e2, u32_or_nat _ _ (Nat.mod_lt _ (by decide)) h2]
  rfl
theorem rotl_sum (x n : Nat) (hx : x < 4294967296) (hn : n ≤ 31) : rotl x n = x * 2 ^ n % 4294967296 + x / 2 ^ (32 - n) := by
  unfold rotl
  have hp : 2 ^ n * 2 ^ (32 - n) = 4294967296 := by rw [← Nat.pow_add, show n + (32 - n) = 32 by omega]
  have h1 : x * 2 ^ n % 4294967296 % 2 ^ n = 0 := by
    rw [← hp, Nat.mul_comm x, Nat.mul_mod_mul_left, Nat.mul_mod_right]
  have h2 : x / 2 ^ (32 - n) < 2 ^ n := by
    rw [Nat.div_lt_iff_lt_mul (Nat.two_pow_pos _), hp]; exact hx
  exact nat_join n _ _ h1 h2
/-- What is turned left, and then by what lacks to 32, is as it was. -/
theorem rotl_back (x n : Nat) (hx : x < 4294967296) (hn : n ≤ 31) : rotl (rotl x n) ((32 - n) % 32) = x := by
  by_cases h0 : n = 0
  · subst h0
    have e : ∀ y, y < 4294967296 → rotl y 0 = y := by
      intro y hy
      rw [rotl_sum y 0 hy (by omega)]
      simp
      omega
    rw [e x hx]
    exact e x hx
  · have h32 : (32 - n) % 32 = 32 - n := Nat.mod_eq_of_lt (by omega)
    rw [h32, rotl_sum _ _ (rotl_lt x n hx) (by omega), rotl_sum x n hx hn, show 32 - (32 - n) = n by omega]
    have hp : 2 ^ n * 2 ^ (32 - n) = 4294967296 := by rw [← Nat.pow_add, show n + (32 - n) = 32 by omega]
    have hP : 0 < 2 ^ n := Nat.two_pow_pos _
    have hQ : 0 < 2 ^ (32 - n) := Nat.two_pow_pos _
    generalize 2 ^ n = P at *
    generalize 2 ^ (32 - n) = Q at *
    have hb : x / Q < P := by rw [Nat.div_lt_iff_lt_mul hQ, hp]; exact hx
    have ex : x = Q * (x / Q) + x % Q := (Nat.div_add_mod x Q).symm
    have hr : x % Q < Q := Nat.mod_lt _ hQ
    generalize x / Q = q at *
    generalize x % Q = r at *
    subst ex
    have e1 : (Q * q + r) * P % 4294967296 = r * P := by
      rw [Nat.add_mul, show Q * q * P = q * 4294967296 by rw [← hp, Nat.mul_comm Q q, Nat.mul_assoc, Nat.mul_comm Q P], Nat.mul_add_mod']
      exact Nat.mod_eq_of_lt (by rw [← hp, Nat.mul_comm P Q]; exact (Nat.mul_lt_mul_right hP).2 hr)
    rw [e1]
    have e2 : (r * P + q) / P = r := by rw [Nat.mul_comm, Nat.mul_add_div hP, Nat.div_eq_of_lt hb, Nat.add_zero]
    have e3 : (r * P + q) * Q % 4294967296 = Q * q := by
      rw [Nat.add_mul, show r * P * Q = r * 4294967296 by rw [← hp, Nat.mul_assoc], Nat.mul_add_mod', Nat.mul_comm q Q]
      exact Nat.mod_eq_of_lt (by rw [← hp, Nat.mul_comm P Q]; exact (Nat.mul_lt_mul_left hQ).2 hb)
    rw [e2, e3]

/-- The three mixings. -/
def chs (b c d : Nat) : Nat := (b &&& c) ||| ((b ^^^ 4294967295) &&& d)
def par (b c d : Nat) : Nat := (b ^^^ c) ^^^ d
def maj (b c d : Nat) : Nat := ((b &&& c) ||| (b &&& d)) ||| (c &&& d)
def fOf (t b c d : Nat) : Nat := if t / 20 = 0 then chs b c d else if t / 20 = 2 then maj b c d else par b c d
def kOf (t : Nat) : Nat := if t / 20 = 0 then 1518500249 else if t / 20 = 1 then 1859775393 else if t / 20 = 2 then 2400959708 else 3395469782
theorem fOf_lt (t b c d : Nat) (hb : b < 4294967296) (hc : c < 4294967296) (hd : d < 4294967296) : fOf t b c d < 4294967296 := by
  unfold fOf chs maj par
  split
  · exact or_lt32 (and_lt32 hc) (and_lt32 hd)
  · split
    · exact or_lt32 (or_lt32 (and_lt32 hc) (and_lt32 hd)) (and_lt32 hd)
    · exact xor_lt32 (xor_lt32 hb hc) hd
theorem kOf_lt (t : Nat) : kOf t < 4294967296 := by
  unfold kOf
  split
  · decide
  · split
    · decide
    · split <;> decide
end Go.Proofs.YtffjpidjhcnnmabDoor
namespace Go.Proofs.YtffjpidjhcnnmabDoor
set_option linter.unusedVariables false
set_option linter.unusedSimpArgs false
open Go.RowKit

def byteAt (l : List UInt8) (k : Nat) : Nat := (l.getD k 0).toNat
theorem byteAt_lt (l : List UInt8) (k : Nat) : byteAt l k < 256 := (l.getD k 0).toNat_lt
/-- The first m bytes of word q, the highest first. -/
def beP (l : List UInt8) (q : Nat) : Nat → Nat
  | 0 => 0
  | m + 1 => beP l q m * 256 + byteAt l (4 * q + m)
def be4 (l : List UInt8) (q : Nat) : Nat := beP l q 4
theorem beP_lt (l : List UInt8) (q m : Nat) : beP l q m < 256 ^ m := by
  induction m with
  | zero => simp [beP]
  | succ m ih =>
    have := byteAt_lt l (4 * q + m)
    rw [beP, Nat.pow_succ]; omega
theorem be4_lt (l : List UInt8) (q : Nat) : be4 l q < 4294967296 := beP_lt l q 4

theorem map_range_set {α : Type} (n k : Nat) (f g : Nat → α) (v : α) (hk : g k = v) (ho : ∀ j, j ≠ k → g j = f j) : (List.range n).map g = ((List.range n).map f).set k v := by
  apply List.ext_getElem?
  intro j
  by_cases hj : j < n
  · by_cases e : j = k
    · subst e
      rw [List.getElem?_set_self (by simp [hj])]
      simp [hj, hk]
    · rw [List.getElem?_set_ne (Ne.symm e)]
      simp [hj, ho j e]
  · have h1 : ((List.range n).map g)[j]? = none := List.getElem?_eq_none (by simp; omega)
    have h2 : (((List.range n).map f).set k v)[j]? = none := List.getElem?_eq_none (by simp; omega)
    rw [h1, h2]
theorem map_range_getD {α : Type} (n k : Nat) (f : Nat → α) (z : α) (hk : k < n) : ((List.range n).map f).getD k z = f k := by
  simp [List.getD, hk]

/-- The eighty cells while the block's bytes go in, i of them so far. -/
def inRow (l : List UInt8) (i : Nat) : List Nat := (List.range 80).map fun q => beP l q (min 4 (i - 4 * q))
theorem inRow_len (l : List UInt8) (i : Nat) : (inRow l i).length = 80 := by simp [inRow]
theorem inRow_zero (l : List UInt8) : inRow l 0 = List.replicate 80 0 := by
  unfold inRow
  have : (fun q => beP l q (min 4 (0 - 4 * q))) = fun _ => 0 := by funext q; simp [beP]
  rw [this, List.map_const']
  simp
theorem inRow_at (l : List UInt8) (i : Nat) (hi : i < 64) : (inRow l i).getD (i / 4) 0 = beP l (i / 4) (i % 4) := by
  unfold inRow
  rw [map_range_getD 80 (i / 4) _ 0 (by omega), show min 4 (i - 4 * (i / 4)) = i % 4 by omega]
theorem inRow_succ (l : List UInt8) (i : Nat) (hi : i < 64) : inRow l (i + 1) = (inRow l i).set (i / 4) (beP l (i / 4) (i % 4) * 256 + byteAt l i) := by
  unfold inRow
  refine map_range_set 80 (i / 4) _ _ _ ?_ ?_
  · show beP l (i / 4) (min 4 (i + 1 - 4 * (i / 4))) = _
    rw [show min 4 (i + 1 - 4 * (i / 4)) = i % 4 + 1 by omega, beP, show 4 * (i / 4) + i % 4 = i by omega]
  · intro j hj
    show beP l j (min 4 (i + 1 - 4 * j)) = beP l j (min 4 (i - 4 * j))
    rw [show min 4 (i + 1 - 4 * j) = min 4 (i - 4 * j) by omega]

/-- Word t, given those ahead. -/
def nxt (l : List UInt8) (t : Nat) (L : List Nat) : Nat := if t < 16 then be4 l t else rotl (((L.getD (t - 3) 0 ^^^ L.getD (t - 8) 0) ^^^ L.getD (t - 14) 0) ^^^ L.getD (t - 16) 0) 1
def schL (l : List UInt8) : Nat → List Nat
  | 0 => []
  | t + 1 => schL l t ++ [nxt l t (schL l t)]
theorem schL_len (l : List UInt8) (t : Nat) : (schL l t).length = t := by
  induction t with
  | zero => rfl
  | succ t ih => rw [schL, List.length_append, ih]; rfl
theorem getD_lt {L : List Nat} {B : Nat} (hB : 0 < B) (h : ∀ x ∈ L, x < B) (j : Nat) : L.getD j 0 < B := by
  rcases Nat.lt_or_ge j L.length with hj | hj
  · rw [List.getD, List.getElem?_eq_getElem hj]
    exact h _ (List.getElem_mem hj)
  · rw [List.getD, List.getElem?_eq_none hj]
    exact hB
theorem nxt_lt (l : List UInt8) (t : Nat) (L : List Nat) (h : ∀ x ∈ L, x < 4294967296) : nxt l t L < 4294967296 := by
  unfold nxt
  split
  · exact be4_lt l t
  · have g := getD_lt (by decide) h
    exact rotl_lt _ _ (xor_lt32 (xor_lt32 (xor_lt32 (g _) (g _)) (g _)) (g _))
theorem schL_lt (l : List UInt8) (t : Nat) : ∀ x ∈ schL l t, x < 4294967296 := by
  induction t with
  | zero => intro x hx; cases hx
  | succ t ih =>
    intro x hx
    rw [schL, List.mem_append] at hx
    rcases hx with hx | hx
    · exact ih x hx
    · rw [List.mem_singleton] at hx; rw [hx]; exact nxt_lt l t _ ih
theorem schL_get (l : List UInt8) (t j : Nat) (h : j < t) : (schL l t).getD j 0 = nxt l j (schL l j) := by
  induction t with
  | zero => omega
  | succ t ih =>
    rw [schL]
    by_cases e : j < t
    · rw [List.getD, List.getElem?_append_left (by rw [schL_len]; exact e), ← List.getD, ih e]
    · obtain rfl : j = t := by omega
      rw [List.getD, List.getElem?_append_right (by rw [schL_len]; exact Nat.le_refl _), schL_len, Nat.sub_self]
      rfl
/-- The cells while the words are made, t of them so far. -/
def fillR (L : List Nat) (n : Nat) : List Nat := L ++ List.replicate (n - L.length) 0
theorem fillR_len (L : List Nat) (n : Nat) (h : L.length ≤ n) : (fillR L n).length = n := by simp [fillR]; omega
theorem fillR_set (L : List Nat) (n v : Nat) (h : L.length < n) : fillR (L ++ [v]) n = (fillR L n).set L.length v := by
  unfold fillR
  rw [List.set_append_right _ _ (Nat.le_refl _), Nat.sub_self, List.length_append, show n - L.length = (n - (L.length + 1)) + 1 by omega, List.replicate_succ]
  simp
theorem fillR_at (L : List Nat) (n j : Nat) (h : j < L.length) : (fillR L n).getD j 0 = L.getD j 0 := by
  unfold fillR
  rw [List.getD, List.getElem?_append_left h, List.getD]
theorem fillR_lt {L : List Nat} {n : Nat} (h : ∀ x ∈ L, x < 4294967296) : ∀ x ∈ fillR L n, x < 4294967296 := by
  intro x hx
  rw [fillR, List.mem_append] at hx
  rcases hx with hx | hx
  · exact h x hx
  · have := List.eq_of_mem_replicate hx; omega
theorem fillR_full (L : List Nat) : fillR L L.length = L := by simp [fillR]
theorem fillR_nil (n : Nat) : fillR [] n = List.replicate n 0 := by simp [fillR]
theorem inRow_full (l : List UInt8) : inRow l 64 = fillR (schL l 16) 80 := by
  apply List.ext_getElem?
  intro j
  unfold inRow fillR
  rw [schL_len]
  by_cases h80 : j < 80
  · have e1 : ((List.range 80).map fun q => beP l q (min 4 (64 - 4 * q)))[j]? = some (beP l j (min 4 (64 - 4 * j))) := by simp [h80]
    rw [e1]
    by_cases h16 : j < 16
    · rw [List.getElem?_append_left (by rw [schL_len]; exact h16)]
      have h := schL_get l 16 j h16
      have hl : j < (schL l 16).length := by rw [schL_len]; exact h16
      rw [List.getD, List.getElem?_eq_getElem hl, Option.getD_some] at h
      rw [List.getElem?_eq_getElem hl, h]
      unfold nxt be4
      rw [if_pos h16, show min 4 (64 - 4 * j) = 4 by omega]
    · rw [List.getElem?_append_right (by rw [schL_len]; omega), schL_len, List.getElem?_replicate, if_pos (by omega), show min 4 (64 - 4 * j) = 0 by omega]
      rfl
  · rw [List.getElem?_eq_none (by simp; omega), List.getElem?_eq_none (by rw [List.length_append, schL_len, List.length_replicate]; omega)]

/-- The five words on their way. -/
structure St where
  a : Nat
  b : Nat
  c : Nat
  d : Nat
  e : Nat
def St.ok (s : St) : Prop := s.a < 4294967296 ∧ s.b < 4294967296 ∧ s.c < 4294967296 ∧ s.d < 4294967296 ∧ s.e < 4294967296
def rnd (W : List Nat) (t : Nat) (s : St) : St := ⟨(rotl s.a 5 + fOf t s.b s.c s.d + s.e + W.getD t 0 + kOf t) % 4294967296, s.a, rotl s.b 30, s.c, s.d⟩
def rnds (W : List Nat) (s : St) : Nat → St
  | 0 => s
  | t + 1 => rnd W t (rnds W s t)
theorem rnd_ok {W : List Nat} {t : Nat} {s : St} (h : s.ok) : (rnd W t s).ok := by
  obtain ⟨h1, h2, h3, h4, h5⟩ := h
  exact ⟨Nat.mod_lt _ (by decide), h1, rotl_lt _ _ h2, h3, h4⟩
theorem rnds_ok {W : List Nat} {s : St} (h : s.ok) (t : Nat) : (rnds W s t).ok := by
  induction t with
  | zero => exact h
  | succ t ih => exact rnd_ok ih
def stOf (h : List Nat) : St := ⟨h.getD 0 0, h.getD 1 0, h.getD 2 0, h.getD 3 0, h.getD 4 0⟩
/-- Five words. -/
def Five (h : List Nat) : Prop := h.length = 5 ∧ ∀ x ∈ h, x < 4294967296
theorem Five.ok {h : List Nat} (f : Five h) : (stOf h).ok := by
  have g := getD_lt (B := 4294967296) (by decide) f.2
  exact ⟨g 0, g 1, g 2, g 3, g 4⟩
theorem Five.mk5 {h : List Nat} (f : Five h) : ∃ a b c d e : Nat, h = [a, b, c, d, e] ∧ a < 4294967296 ∧ b < 4294967296 ∧ c < 4294967296 ∧ d < 4294967296 ∧ e < 4294967296 := by
  obtain ⟨hl, hx⟩ := f
  match h, hl with
  | [a, b, c, d, e], _ => exact ⟨a, b, c, d, e, rfl, hx a (by simp), hx b (by simp), hx c (by simp), hx d (by simp), hx e (by simp)⟩
def sumUp (h : List Nat) (s : St) : List Nat := [(h.getD 0 0 + s.a) % 4294967296, (h.getD 1 0 + s.b) % 4294967296, (h.getD 2 0 + s.c) % 4294967296, (h.getD 3 0 + s.d) % 4294967296, (h.getD 4 0 + s.e) % 4294967296]
/-- A block mixed into five words. -/
def comp (h : List Nat) (l : List UInt8) : List Nat := sumUp h (rnds (schL l 80) (stOf h) 80)
theorem sumUp_five (h : List Nat) (s : St) : Five (sumUp h s) := by
  refine ⟨rfl, ?_⟩
  intro x hx
  simp only [sumUp, List.mem_cons, List.not_mem_nil, or_false] at hx
  rcases hx with rfl | rfl | rfl | rfl | rfl <;> exact Nat.mod_lt _ (by decide)
theorem comp_five (h : List Nat) (l : List UInt8) : Five (comp h l) := sumUp_five _ _

/-- n blocks of l mixed in, one after the other. -/
def absH (h : List Nat) (l : List UInt8) : Nat → List Nat
  | 0 => h
  | n + 1 => comp (absH h l n) ((l.drop (64 * n)).take 64)
theorem absH_five {h : List Nat} (f : Five h) (l : List UInt8) (n : Nat) : Five (absH h l n) := by
  cases n with
  | zero => exact f
  | succ n => exact comp_five _ _
theorem absH_add (h : List Nat) (l : List UInt8) (n k : Nat) : absH h l (n + k) = absH (absH h l n) (l.drop (64 * n)) k := by
  induction k with
  | zero => rfl
  | succ k ih =>
    rw [← Nat.add_assoc, absH, absH, ih, List.drop_drop, Nat.mul_add]
theorem absH_front (h : List Nat) (l m : List UInt8) (n : Nat) (hn : 64 * n ≤ l.length) : absH h (l ++ m) n = absH h l n := by
  induction n with
  | zero => rfl
  | succ n ih =>
    rw [absH, absH, ih (by omega), List.drop_append_of_le_length (by omega), List.take_append_of_le_length (by rw [List.length_drop]; omega)]
/-- The words, and what remains, behind l. -/
def inH (h : List Nat) (l : List UInt8) : List Nat := absH h l (l.length / 64)
def inR (l : List UInt8) : List UInt8 := l.drop (64 * (l.length / 64))
theorem inR_len (l : List UInt8) : (inR l).length = l.length % 64 := by rw [inR, List.length_drop]; omega
theorem inH_five {h : List Nat} (f : Five h) (l : List UInt8) : Five (inH h l) := absH_five f _ _
/-- What comes in by two is as what comes in at once. -/
theorem inH_app (h : List Nat) (l m : List UInt8) : inH (inH h l) (inR l ++ m) = inH h (l ++ m) := by
  have e : (l ++ m).length / 64 = l.length / 64 + (inR l ++ m).length / 64 := by
    rw [List.length_append, List.length_append, inR_len]; omega
  unfold inH
  rw [e, absH_add, absH_front h l m _ (by omega), List.drop_append_of_le_length (by omega)]
  rfl
theorem inR_app (l m : List UInt8) : inR (inR l ++ m) = inR (l ++ m) := by
  have e : (l ++ m).length / 64 = l.length / 64 + (inR l ++ m).length / 64 := by
    rw [List.length_append, List.length_append, inR_len]; omega
  have e2 : inR (l ++ m) = (l ++ m).drop (64 * (l.length / 64 + (inR l ++ m).length / 64)) := by rw [← e]; rfl
  rw [e2, Nat.mul_add, ← List.drop_drop, List.drop_append_of_le_length (by omega)]
  rfl

/-- Eight bytes, the highest first. -/
def be8 (n : Nat) : List UInt8 := (List.range 8).map fun i => UInt8.ofNat (n / 256 ^ (7 - i))
def nZero (size : Nat) : Nat := (119 - size % 64) % 64
def endL (size : Nat) : List UInt8 := 128 :: (List.replicate (nZero size) 0 ++ be8 (8 * size))
theorem endL_len (size : Nat) : (endL size).length = nZero size + 9 := by simp [endL, be8]
def wordB (x : Nat) : List UInt8 := [UInt8.ofNat (x / 16777216), UInt8.ofNat (x / 65536), UInt8.ofNat (x / 256), UInt8.ofNat x]
def digH (h : List Nat) : List UInt8 := wordB (h.getD 0 0) ++ wordB (h.getD 1 0) ++ wordB (h.getD 2 0) ++ wordB (h.getD 3 0) ++ wordB (h.getD 4 0)
theorem digH_len (h : List Nat) : (digH h).length = 20 := rfl
/-- The end of a digest under way. -/
def endS (h : List Nat) (r : List UInt8) (size : Nat) : List UInt8 := digH (inH h (r ++ endL size))
def h0L : List Nat := [1732584193, 4023233417, 2562383102, 271733878, 3285377520]
theorem h0_five : Five h0L := ⟨rfl, by decide⟩
def sha1L (l : List UInt8) : List UInt8 := endS (inH h0L l) (inR l) l.length
def sha1B (s : ByteArray) : ByteArray := ⟨(sha1L s.data.toList).toArray⟩
theorem sha1L_len (l : List UInt8) : (sha1L l).length = 20 := rfl
theorem sha1B_size (s : ByteArray) : (sha1B s).size = 20 := rfl
end Go.Proofs.YtffjpidjhcnnmabDoor
