/-
  Plain mathematics of chapter 2: the calendar. No Go in sight.
-/
import Derived.WalkKit
namespace Go.Proofs.YtffjpidjhcnnmabDoor
set_option linter.unusedVariables false
set_option linter.unusedSimpArgs false

def leapB (y : Int) : Bool := decide (y % 4 = 0) && (!decide (y % 100 = 0) || decide (y % 400 = 0))
def lp (y : Int) : Int := if leapB y = true then 1 else 0
/-- The days of month m in the year y. -/
def dim (y m : Int) : Int := if m = 2 then 28 + lp y else if m = 4 ∨ m = 6 ∨ m = 9 ∨ m = 11 then 30 else 31
/-- The days of the year y ahead of month m. -/
def cum (y m : Int) : Int :=
  if m ≤ 1 then 0 else if m = 2 then 31 else lp y + (if m = 3 then 59 else if m = 4 then 90 else if m = 5 then 120 else if m = 6 then 151 else if m = 7 then 181 else if m = 8 then 212 else if m = 9 then 243 else if m = 10 then 273 else if m = 11 then 304 else if m = 12 then 334 else 365)
/-- The days from 1970 to the beginning of the year y. -/
def dby (y : Int) : Int := 365 * (y - 1970) + ((y - 1) / 4 - (y - 1) / 100 + (y - 1) / 400) - 477

theorem leapB_iff (y : Int) : leapB y = true ↔ y % 4 = 0 ∧ (y % 100 ≠ 0 ∨ y % 400 = 0) := by
  unfold leapB; simp
theorem lp_pos {y : Int} (h : leapB y = true) : lp y = 1 := by unfold lp; rw [if_pos h]
theorem lp_neg {y : Int} (h : leapB y = false) : lp y = 0 := by unfold lp; rw [if_neg (by rw [h]; decide)]
theorem lp_01 (y : Int) : lp y = 0 ∨ lp y = 1 := by unfold lp; split <;> simp
theorem lp_bd (y : Int) : 0 ≤ lp y ∧ lp y ≤ 1 := by rcases lp_01 y with h | h <;> omega
theorem dby_succ (y : Int) : dby (y + 1) = dby y + 365 + lp y := by
  have hl : lp y = if y % 4 = 0 ∧ (y % 100 ≠ 0 ∨ y % 400 = 0) then 1 else 0 := by
    unfold lp
    by_cases h : leapB y = true
    · rw [if_pos h, if_pos ((leapB_iff y).1 h)]
    · rw [if_neg h, if_neg (fun hh => h ((leapB_iff y).2 hh))]
  unfold dby
  rw [hl]
  split <;> omega
theorem dby_1970 : dby 1970 = 0 := by decide
theorem dby_10000 : dby 10000 = 2932897 := by decide
theorem dby_mono {a b : Int} (h : a ≤ b) : dby a ≤ dby b := by
  obtain ⟨k, rfl⟩ : ∃ k : Nat, b = a + k := ⟨(b - a).toNat, by omega⟩
  clear h
  induction k with
  | zero => simp
  | succ k ih =>
    have h1 := dby_succ (a + k)
    have h2 := lp_bd (a + k)
    have e : a + ((k + 1 : Nat) : Int) = a + k + 1 := by omega
    rw [e, h1]
    omega
theorem dby_bd {y : Int} (h0 : 1970 ≤ y) (h1 : y ≤ 10000) : 0 ≤ dby y ∧ dby y ≤ 2932897 := by
  have a := dby_mono h0
  have b := dby_mono h1
  rw [dby_1970] at a
  rw [dby_10000] at b
  exact ⟨a, b⟩
theorem month_cases {m : Int} (h0 : 1 ≤ m) (h1 : m ≤ 12) : m = 1 ∨ m = 2 ∨ m = 3 ∨ m = 4 ∨ m = 5 ∨ m = 6 ∨ m = 7 ∨ m = 8 ∨ m = 9 ∨ m = 10 ∨ m = 11 ∨ m = 12 := by omega
theorem cum_succ (y m : Int) (h0 : 1 ≤ m) (h1 : m ≤ 12) : cum y (m + 1) = cum y m + dim y m := by
  rcases month_cases h0 h1 with rfl | rfl | rfl | rfl | rfl | rfl | rfl | rfl | rfl | rfl | rfl | rfl <;> simp [cum, dim] <;> omega
theorem cum_one (y : Int) : cum y 1 = 0 := by simp [cum]
theorem cum_13 (y : Int) : cum y 13 = 365 + lp y := by simp [cum]; omega
theorem dim_bd (y m : Int) : 28 ≤ dim y m ∧ dim y m ≤ 31 := by
  have := lp_bd y
  unfold dim
  split
  · omega
  · split <;> omega
theorem cum_bd (y m : Int) : 0 ≤ cum y m ∧ cum y m ≤ 366 := by
  have := lp_bd y
  unfold cum
  repeat' split
  all_goals omega
theorem cum_mono (y : Int) {a b : Int} (h0 : 1 ≤ a) (h : a ≤ b) (h1 : b ≤ 13) : cum y a ≤ cum y b := by
  obtain ⟨k, rfl⟩ : ∃ k : Nat, b = a + k := ⟨(b - a).toNat, by omega⟩
  clear h
  induction k with
  | zero => simp
  | succ k ih =>
    have h1 := cum_succ y (a + k) (by omega) (by omega)
    have h2 := dim_bd y (a + k)
    have e : a + ((k + 1 : Nat) : Int) = a + k + 1 := by omega
    have := ih (by omega)
    rw [e, h1]
    omega
/-- A day that there is, and an hour. -/
def vld (y m d h i s : Int) : Prop := 1970 ≤ y ∧ y ≤ 9999 ∧ 1 ≤ m ∧ m ≤ 12 ∧ 1 ≤ d ∧ d ≤ dim y m ∧ 0 ≤ h ∧ h ≤ 23 ∧ 0 ≤ i ∧ i ≤ 59 ∧ 0 ≤ s ∧ s ≤ 59
def vldB (y m d h i s : Int) : Bool := decide (1970 ≤ y ∧ y ≤ 9999 ∧ 1 ≤ m ∧ m ≤ 12 ∧ 1 ≤ d ∧ d ≤ dim y m ∧ 0 ≤ h ∧ h ≤ 23 ∧ 0 ≤ i ∧ i ≤ 59 ∧ 0 ≤ s ∧ s ≤ 59)
theorem vldB_iff {y m d h i s : Int} : vldB y m d h i s = true ↔ vld y m d h i s := by unfold vldB vld; rw [decide_eq_true_iff]
/-- The days ahead, and the seconds. -/
def dnum (y m d : Int) : Int := dby y + cum y m + d - 1
def secs (y m d h i s : Int) : Int := dnum y m d * 86400 + h * 3600 + i * 60 + s
theorem cum_top (y m : Int) (h0 : 1 ≤ m) (h1 : m ≤ 12) : cum y m + dim y m ≤ 365 + lp y := by
  have a := cum_succ y m h0 h1
  have b := cum_mono y (a := m + 1) (b := 13) (by omega) (by omega) (by omega)
  rw [cum_13] at b
  omega
theorem dnum_lt {y m d h i s : Int} (hv : vld y m d h i s) : dby y ≤ dnum y m d ∧ dnum y m d < dby (y + 1) := by
  obtain ⟨a, b, c, e, f, g, _⟩ := hv
  have h1 := cum_top y m c e
  have h2 := cum_bd y m
  have h3 := dby_succ y
  unfold dnum
  omega
theorem dnum_bd {y m d h i s : Int} (hv : vld y m d h i s) : 0 ≤ dnum y m d ∧ dnum y m d ≤ 2932896 := by
  have h1 := dnum_lt hv
  obtain ⟨a, b, _⟩ := hv
  have h2 := dby_bd a (by omega)
  have h3 := dby_mono (a := y + 1) (b := 10000) (by omega)
  rw [dby_10000] at h3
  omega
theorem secs_bd {y m d h i s : Int} (hv : vld y m d h i s) : 0 ≤ secs y m d h i s ∧ secs y m d h i s ≤ 253402300799 := by
  have h1 := dnum_bd hv
  obtain ⟨_, _, _, _, _, _, a, b, c, e, f, g⟩ := hv
  unfold secs
  omega
theorem secs_parts {y m d h i s : Int} (hv : vld y m d h i s) :
    secs y m d h i s / 86400 = dnum y m d ∧ secs y m d h i s % 86400 = h * 3600 + i * 60 + s ∧ secs y m d h i s / 3600 % 24 = h ∧ secs y m d h i s / 60 % 60 = i ∧ secs y m d h i s % 60 = s := by
  obtain ⟨_, _, _, _, _, _, a, b, c, e, f, g⟩ := hv
  unfold secs
  omega
theorem clock_parts {h i s : Int} (a : 0 ≤ h) (b : h ≤ 23) (c : 0 ≤ i) (e : i ≤ 59) (f : 0 ≤ s) (g : s ≤ 59) :
    (h * 3600 + i * 60 + s) / 3600 = h ∧ (h * 3600 + i * 60 + s) / 60 % 60 = i ∧ (h * 3600 + i * 60 + s) % 60 = s := by omega
/-- Each day has its year: just the one. -/
theorem year_iff {y m d h i s : Int} (hv : vld y m d h i s) (k : Int) : dby (k + 1) ≤ dnum y m d ↔ k < y := by
  have h1 := dnum_lt hv
  constructor
  · intro hk
    rcases (by omega : k < y ∨ y ≤ k) with h | h
    · exact h
    · have := dby_mono (a := y + 1) (b := k + 1) (by omega); omega
  · intro hk
    have := dby_mono (a := k + 1) (b := y) (by omega); omega
theorem month_iff {y m d h i s : Int} (hv : vld y m d h i s) (k : Int) (k0 : 1 ≤ k) (k1 : k ≤ m) : dim y k ≤ cum y m + d - 1 - cum y k ↔ k < m := by
  obtain ⟨_, _, c, e, f, g, _⟩ := hv
  have h1 := cum_succ y k k0 (by omega)
  constructor
  · intro hk
    rcases (by omega : k < m ∨ m ≤ k) with h | h
    · exact h
    · obtain rfl : k = m := by omega
      omega
  · intro hk
    have := cum_mono y (a := k + 1) (b := m) (by omega) (by omega) (by omega); omega
theorem year_of (n : Nat) : ∃ y : Int, 1970 ≤ y ∧ dby y ≤ n ∧ (n : Int) < dby (y + 1) := by
  induction n with
  | zero => exact ⟨1970, by omega, by decide, by decide⟩
  | succ n ih =>
    obtain ⟨y, h0, h1, h2⟩ := ih
    by_cases h : ((n + 1 : Nat) : Int) < dby (y + 1)
    · exact ⟨y, h0, by omega, h⟩
    · have h3 := dby_succ (y + 1)
      have h4 := lp_bd (y + 1)
      exact ⟨y + 1, by omega, by omega, by omega⟩
theorem month_of (y r : Int) (h0 : 0 ≤ r) (h1 : r < 365 + lp y) : ∃ m : Int, 1 ≤ m ∧ m ≤ 12 ∧ cum y m ≤ r ∧ r < cum y m + dim y m := by
  have key : ∀ k : Nat, k ≤ 12 → r < cum y (13 : Int) → (∃ m : Int, 1 ≤ m ∧ m ≤ 12 ∧ cum y m ≤ r ∧ r < cum y (m + 1)) ∨ r < cum y (13 - k) := by
    intro k
    induction k with
    | zero => intro _ h; right; simpa using h
    | succ k ih =>
      intro hk h
      rcases ih (by omega) h with h' | h'
      · left; exact h'
      · by_cases hc : cum y (13 - ((k + 1 : Nat) : Int)) ≤ r
        · left
          exact ⟨13 - ((k + 1 : Nat) : Int), by omega, by omega, hc, by rw [show (13 - ((k + 1 : Nat) : Int) + 1 : Int) = 13 - k by omega]; exact h'⟩
        · right; omega
  rcases key 12 (by omega) (by rw [cum_13]; exact h1) with ⟨m, a, b, c, e⟩ | h
  · exact ⟨m, a, b, c, by rw [cum_succ y m a b] at e; exact e⟩
  · have : cum y (13 - ((12 : Nat) : Int)) = 0 := cum_one y
    omega
/-- Each time has its day and hour. -/
theorem civ_of (t : Int) (h0 : 0 ≤ t) (h1 : t ≤ 253402300799) : ∃ y m d h i s : Int, vld y m d h i s ∧ t = secs y m d h i s := by
  obtain ⟨n, hn⟩ : ∃ n : Nat, t / 86400 = n := ⟨(t / 86400).toNat, by omega⟩
  obtain ⟨y, a, b, c⟩ := year_of n
  have hs := dby_succ y
  obtain ⟨m, e, f, g, k⟩ := month_of y (n - dby y) (by omega) (by omega)
  have hy : y ≤ 9999 := by
    rcases (by omega : y < 10000 ∨ 10000 ≤ y) with h | h
    · omega
    · have := dby_mono h; rw [dby_10000] at this; omega
  refine ⟨y, m, n - dby y - cum y m + 1, t / 3600 % 24, t / 60 % 60, t % 60, ⟨a, hy, e, f, by omega, by omega, by omega, by omega, by omega, by omega, by omega, by omega⟩, ?_⟩
  unfold secs dnum
  omega
theorem dnum_inj {y m d h i s y' m' d' h' i' s' : Int} (hv : vld y m d h i s) (hv' : vld y' m' d' h' i' s') (e : dnum y m d = dnum y' m' d') : y = y' ∧ m = m' ∧ d = d' := by
  have a1 := dnum_lt hv
  have a2 := dnum_lt hv'
  have ey : y = y' := by
    rcases Int.lt_trichotomy y y' with h | h | h
    · have := dby_mono (a := y + 1) (b := y') (by omega); omega
    · exact h
    · have := dby_mono (a := y' + 1) (b := y) (by omega); omega
  subst ey
  obtain ⟨_, _, b1, b2, b3, b4, _⟩ := hv
  obtain ⟨_, _, c1, c2, c3, c4, _⟩ := hv'
  have d1 := cum_succ y m b1 b2
  have d2 := cum_succ y m' c1 c2
  unfold dnum at e
  have em : m = m' := by
    rcases Int.lt_trichotomy m m' with h | h | h
    · have := cum_mono y (a := m + 1) (b := m') (by omega) (by omega) (by omega); omega
    · exact h
    · have := cum_mono y (a := m' + 1) (b := m) (by omega) (by omega) (by omega); omega
  subst em
  exact ⟨rfl, rfl, by omega⟩
theorem secs_inj {y m d h i s y' m' d' h' i' s' : Int} (hv : vld y m d h i s) (hv' : vld y' m' d' h' i' s') (e : secs y m d h i s = secs y' m' d' h' i' s') : y = y' ∧ m = m' ∧ d = d' ∧ h = h' ∧ i = i' ∧ s = s' := by
  have a := secs_parts hv
  have b := secs_parts hv'
  rw [e] at a
  obtain ⟨e1, e2, e3⟩ := dnum_inj hv hv' (by omega)
  exact ⟨e1, e2, e3, by omega, by omega, by omega⟩
end Go.Proofs.YtffjpidjhcnnmabDoor
