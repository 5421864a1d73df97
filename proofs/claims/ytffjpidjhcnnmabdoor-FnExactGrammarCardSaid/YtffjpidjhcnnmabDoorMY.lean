/-
  Plain mathematics of chapter 2: of which time a text is. No Go in sight.
-/
import Derived.Test.YtffjpidjhcnnmabDoorMX
namespace Go.Proofs.YtffjpidjhcnnmabDoor
set_option linter.unusedVariables false
set_option linter.unusedSimpArgs false
open Go.RowKit

abbrev Form := Nat → Nat → Nat → Nat → Nat → Nat → ByteArray
/-- a is the text of the time t, in the form F, of years up to Z. -/
def IsF (Z : Nat) (F : Form) (a : ByteArray) (t : Int) : Prop := ∃ y m d h i s : Nat, vld y m d h i s ∧ y ≤ Z ∧ t = secs y m d h i s ∧ a = F y m d h i s
/-- What is answered: the time, and true; else 0 and false. -/
def Res (P : Int → Prop) (t : Int) (b : Bool) : Prop := (b = true ∧ P t) ∨ (b = false ∧ t = 0 ∧ ∀ t', ¬ P t')
theorem Res.unique {P : Int → Prop} (hP : ∀ t t', P t → P t' → t = t') {t t' : Int} {b b' : Bool} (h : Res P t b) (h' : Res P t' b') : t = t' ∧ b = b' := by
  rcases h with ⟨rfl, h⟩ | ⟨rfl, rfl, h⟩ <;> rcases h' with ⟨rfl, h'⟩ | ⟨rfl, rfl, h'⟩
  · exact ⟨hP _ _ h h', rfl⟩
  · exact absurd h (h' _)
  · exact absurd h' (h _)
  · exact ⟨rfl, rfl⟩
/-- The parts that are read are those that were written. -/
def Reads (Z : Nat) (F : Form) (a : ByteArray) (Y M D H I S : Int) : Prop := ∀ y m d h i s : Nat, vld y m d h i s → y ≤ Z → a = F y m d h i s → Y = y ∧ M = m ∧ D = d ∧ H = h ∧ I = i ∧ S = s
theorem Reads.unique {Z : Nat} {F : Form} {a : ByteArray} {Y M D H I S : Int} (hr : Reads Z F a Y M D H I S) (t t' : Int) (h : IsF Z F a t) (h' : IsF Z F a t') : t = t' := by
  obtain ⟨y, m, d, h, i, s, hv, hz, e, ea⟩ := h
  obtain ⟨y', m', d', h', i', s', hv', hz', e', ea'⟩ := h'
  obtain ⟨a1, a2, a3, a4, a5, a6⟩ := hr _ _ _ _ _ _ hv hz ea
  obtain ⟨b1, b2, b3, b4, b5, b6⟩ := hr _ _ _ _ _ _ hv' hz' ea'
  rw [e, e', ← a1, ← a2, ← a3, ← a4, ← a5, ← a6, b1, b2, b3, b4, b5, b6]
theorem Reads.none_of {Z : Nat} {F : Form} {a : ByteArray} {Y M D H I S : Int} (hr : Reads Z F a Y M D H I S) (hv : vldB Y M D H I S = false) (t : Int) : ¬ IsF Z F a t := by
  rintro ⟨y, m, d, h, i, s, hv', hz, _, ea⟩
  obtain ⟨rfl, rfl, rfl, rfl, rfl, rfl⟩ := hr _ _ _ _ _ _ hv' hz ea
  rw [vldB_iff.2 hv'] at hv
  cases hv
theorem Reads.none_ne {Z : Nat} {F : Form} {a : ByteArray} {y m d h i s : Nat} (hr : Reads Z F a y m d h i s) (hne : a ≠ F y m d h i s) (t : Int) : ¬ IsF Z F a t := by
  rintro ⟨y', m', d', h', i', s', hv', hz, _, ea⟩
  obtain ⟨e1, e2, e3, e4, e5, e6⟩ := hr _ _ _ _ _ _ hv' hz ea
  apply hne
  rw [ea, Int.ofNat_inj.1 e1, Int.ofNat_inj.1 e2, Int.ofNat_inj.1 e3, Int.ofNat_inj.1 e4, Int.ofNat_inj.1 e5, Int.ofNat_inj.1 e6]
/-- Six whole numbers out of a right day and hour. -/
theorem nats_of {Y M D H I S : Int} (hv : vldB Y M D H I S = true) : ∃ y m d h i s : Nat, Y = y ∧ M = m ∧ D = d ∧ H = h ∧ I = i ∧ S = s ∧ vld y m d h i s := by
  have v := vldB_iff.1 hv
  have v' := v
  unfold vld at v'
  obtain ⟨y, rfl⟩ := Int.eq_ofNat_of_zero_le (a := Y) (by omega)
  obtain ⟨m, rfl⟩ := Int.eq_ofNat_of_zero_le (a := M) (by omega)
  obtain ⟨d, rfl⟩ := Int.eq_ofNat_of_zero_le (a := D) (by omega)
  obtain ⟨h, rfl⟩ := Int.eq_ofNat_of_zero_le (a := H) (by omega)
  obtain ⟨i, rfl⟩ := Int.eq_ofNat_of_zero_le (a := I) (by omega)
  obtain ⟨s, rfl⟩ := Int.eq_ofNat_of_zero_le (a := S) (by omega)
  exact ⟨y, m, d, h, i, s, rfl, rfl, rfl, rfl, rfl, rfl, v⟩
def nS (s : ByteArray) : Int := numS s.data.toList
theorem nS_dig {s : ByteArray} {n p : Nat} (h : s.data.toList = digL n p) (hn : n < 10 ^ p) : nS s = n := by unfold nS; rw [h, numS_dig n p hn]
theorem nS_clock {c : ByteArray} {h i s : Nat} (hc : c.data.toList = clockL h i s) (hh : h < 100) (hi : i < 100) (hs : s < 100) :
    nS (c.extract 0 2) = h ∧ nS (c.extract 3 5) = i ∧ nS (c.extract 6 8) = s := by
  obtain ⟨a, b, d⟩ := clock_pos hc
  exact ⟨nS_dig a hh, nS_dig b hi, nS_dig d hs⟩
def sMon (s : ByteArray) : Int := if monOf s = 0 then -1 else (monOf s : Int)
theorem sMon_mon {m : Nat} (h0 : 1 ≤ m) (h1 : m ≤ 12) : sMon (monB m) = m := by
  unfold sMon; rw [monOf_mon h0 h1, if_neg (by omega)]
theorem vbd {y m d h i s : Nat} (hv : vld y m d h i s) : 1970 ≤ y ∧ y < 10000 ∧ 1 ≤ m ∧ m ≤ 12 ∧ d < 100 ∧ m < 100 ∧ h < 100 ∧ i < 100 ∧ s < 100 ∧ 1 ≤ d := by
  have := dim_bd y m
  unfold vld at hv
  omega
def warcF : Form := warcB
def stampF : Form := stampB
def httpF : Form := fun y m d h i s => httpB (wdN' (secs y m d h i s)) y m d h i s
def longF : Form := fun y m d h i s => longB (wdN' (secs y m d h i s)) y m d h i s
def lineF : Form := fun y m d h i s => lineB (wdN' (secs y m d h i s)) y m d h i s
theorem warc_reads (a : ByteArray) : Reads 9999 warcF a (nval (a.extract 0 4)) (nval (a.extract 5 7)) (nval (a.extract 8 10)) (nval ((a.extract 11 19).extract 0 2)) (nval ((a.extract 11 19).extract 3 5)) (nval ((a.extract 11 19).extract 6 8)) := by
  rintro y m d h i s hv _ rfl
  obtain ⟨_, b2, _, _, b5, b6, b7, b8, b9, _⟩ := vbd hv
  obtain ⟨p1, p2, p3, p4⟩ := warc_pos y m d h i s
  obtain ⟨c1, c2, c3⟩ := clock_nums p4 b7 b8 b9
  unfold warcF
  rw [nval_dig p1 b2, nval_dig p2 b6, nval_dig p3 b5, c1, c2, c3]
  exact ⟨rfl, rfl, rfl, rfl, rfl, rfl⟩
theorem warc_readsS (a : ByteArray) : Reads 9999 warcF a (nS (a.extract 0 4)) (nS (a.extract 5 7)) (nS (a.extract 8 10)) (nS ((a.extract 11 19).extract 0 2)) (nS ((a.extract 11 19).extract 3 5)) (nS ((a.extract 11 19).extract 6 8)) := by
  rintro y m d h i s hv _ rfl
  obtain ⟨_, b2, _, _, b5, b6, b7, b8, b9, _⟩ := vbd hv
  obtain ⟨p1, p2, p3, p4⟩ := warc_pos y m d h i s
  obtain ⟨c1, c2, c3⟩ := nS_clock p4 b7 b8 b9
  unfold warcF
  exact ⟨nS_dig p1 b2, nS_dig p2 b6, nS_dig p3 b5, c1, c2, c3⟩
theorem stamp_reads (a : ByteArray) : Reads 9999 stampF a (nval (a.extract 0 4)) (nval (a.extract 4 6)) (nval (a.extract 6 8)) (nval (a.extract 8 10)) (nval (a.extract 10 12)) (nval (a.extract 12 14)) := by
  rintro y m d h i s hv _ rfl
  obtain ⟨_, b2, _, _, b5, b6, b7, b8, b9, _⟩ := vbd hv
  obtain ⟨p1, p2, p3, p4, p5, p6⟩ := stamp_pos y m d h i s
  unfold stampF
  rw [nval_dig p1 b2, nval_dig p2 b6, nval_dig p3 b5, nval_dig p4 b7, nval_dig p5 b8, nval_dig p6 b9]
  exact ⟨rfl, rfl, rfl, rfl, rfl, rfl⟩
/-- The clock that spec.ReadStamp puts together. -/
def colons (a b c : ByteArray) : ByteArray := a ++ ⟨#[58]⟩ ++ b ++ ⟨#[58]⟩ ++ c
theorem colons_pos {a b c : ByteArray} (ha : a.size = 2) (hb : b.size = 2) (hc : c.size = 2) : (colons a b c).size = 8 ∧ ((colons a b c).extract 0 2) = a ∧ ((colons a b c).extract 3 5) = b ∧ ((colons a b c).extract 6 8) = c := by
  have hl : (colons a b c).data.toList = a.data.toList ++ [58] ++ b.data.toList ++ [58] ++ c.data.toList := by unfold colons; simp only [app_list]
  have la := len_data a
  have lb := len_data b
  have lc := len_data c
  refine ⟨?_, bytes_ext (mid_bytes _ [] a.data.toList ([58] ++ b.data.toList ++ [58] ++ c.data.toList) 0 2 ?_ rfl ?_), bytes_ext (mid_bytes _ (a.data.toList ++ [58]) b.data.toList ([58] ++ c.data.toList) 3 5 ?_ ?_ ?_), bytes_ext (mid_bytes _ (a.data.toList ++ [58] ++ b.data.toList ++ [58]) c.data.toList [] 6 8 ?_ ?_ ?_)⟩
  · rw [← len_data, hl]; simp only [List.length_append, la, lb, lc, List.length_cons, List.length_nil]; omega
  all_goals first | (rw [hl]; done) | (rw [hl]; simp; done) | (simp only [List.length_append, la, lb, lc, List.length_cons, List.length_nil]; omega)
theorem stamp_readsS (a : ByteArray) : Reads 9999 stampF a (nS (a.extract 0 4)) (nS (a.extract 4 6)) (nS (a.extract 6 8)) (nS (a.extract 8 10)) (nS (a.extract 10 12)) (nS (a.extract 12 14)) := by
  rintro y m d h i s hv _ rfl
  obtain ⟨_, b2, _, _, b5, b6, b7, b8, b9, _⟩ := vbd hv
  obtain ⟨p1, p2, p3, p4, p5, p6⟩ := stamp_pos y m d h i s
  unfold stampF
  exact ⟨nS_dig p1 b2, nS_dig p2 b6, nS_dig p3 b5, nS_dig p4 b7, nS_dig p5 b8, nS_dig p6 b9⟩
theorem http_reads (a : ByteArray) : Reads 9999 httpF a (nval (a.extract 12 16)) (monOf (a.extract 8 11)) (nval (a.extract 5 7)) (nval ((a.extract 17 25).extract 0 2)) (nval ((a.extract 17 25).extract 3 5)) (nval ((a.extract 17 25).extract 6 8)) := by
  rintro y m d h i s hv _ rfl
  obtain ⟨_, b2, b3, b4, b5, b6, b7, b8, b9, _⟩ := vbd hv
  obtain ⟨p1, p2, p3, p4⟩ := http_pos (wdN' (secs y m d h i s)) y m d h i s (wdN'_lt _) b3 b4
  obtain ⟨c1, c2, c3⟩ := clock_nums p4 b7 b8 b9
  unfold httpF
  rw [nval_dig p1 b2, p2, monOf_mon b3 b4, nval_dig p3 b5, c1, c2, c3]
  exact ⟨rfl, rfl, rfl, rfl, rfl, rfl⟩
theorem http_readsS (a : ByteArray) : Reads 9999 httpF a (nS (a.extract 12 16)) (sMon (a.extract 8 11)) (nS (a.extract 5 7)) (nS ((a.extract 17 25).extract 0 2)) (nS ((a.extract 17 25).extract 3 5)) (nS ((a.extract 17 25).extract 6 8)) := by
  rintro y m d h i s hv _ rfl
  obtain ⟨_, b2, b3, b4, b5, b6, b7, b8, b9, _⟩ := vbd hv
  obtain ⟨p1, p2, p3, p4⟩ := http_pos (wdN' (secs y m d h i s)) y m d h i s (wdN'_lt _) b3 b4
  obtain ⟨c1, c2, c3⟩ := nS_clock p4 b7 b8 b9
  unfold httpF
  rw [p2]
  exact ⟨nS_dig p1 b2, sMon_mon b3 b4, nS_dig p3 b5, c1, c2, c3⟩
theorem line_reads (a : ByteArray) : Reads 9999 lineF a (nval (a.extract 20 24)) (monOf (a.extract 4 7)) (nval (a.extract 8 10)) (nval ((a.extract 11 19).extract 0 2)) (nval ((a.extract 11 19).extract 3 5)) (nval ((a.extract 11 19).extract 6 8)) := by
  rintro y m d h i s hv _ rfl
  obtain ⟨_, b2, b3, b4, b5, b6, b7, b8, b9, _⟩ := vbd hv
  obtain ⟨p1, p2, p3, p4⟩ := line_pos (wdN' (secs y m d h i s)) y m d h i s (wdN'_lt _) b3 b4
  obtain ⟨c1, c2, c3⟩ := clock_nums p4 b7 b8 b9
  unfold lineF
  have e3 : nval ((lineB (wdN' (secs y m d h i s)) y m d h i s).extract 8 10) = d := by unfold nval; rw [p3, bday_val d b5]
  rw [nval_dig p1 b2, p2, monOf_mon b3 b4, e3, c1, c2, c3]
  exact ⟨rfl, rfl, rfl, rfl, rfl, rfl⟩
theorem line_readsS (a : ByteArray) : Reads 9999 lineF a (nS (a.extract 20 24)) (sMon (a.extract 4 7)) (nS (a.extract 8 10)) (nS ((a.extract 11 19).extract 0 2)) (nS ((a.extract 11 19).extract 3 5)) (nS ((a.extract 11 19).extract 6 8)) := by
  rintro y m d h i s hv _ rfl
  obtain ⟨_, b2, b3, b4, b5, b6, b7, b8, b9, _⟩ := vbd hv
  obtain ⟨p1, p2, p3, p4⟩ := line_pos (wdN' (secs y m d h i s)) y m d h i s (wdN'_lt _) b3 b4
  obtain ⟨c1, c2, c3⟩ := nS_clock p4 b7 b8 b9
  unfold lineF
  rw [p2]
  refine ⟨nS_dig p1 b2, sMon_mon b3 b4, ?_, c1, c2, c3⟩
  unfold nS numS
  rw [p3, if_pos (bday_numb d), bday_val d b5]
theorem yOf_mod {y : Nat} (h0 : 1970 ≤ y) (h1 : y ≤ 2069) : yOf (y % 100) = y := by unfold yOf; split <;> omega
theorem yOf_le {n : Nat} (h : n < 100) : yOf n ≤ 2069 := by unfold yOf; split <;> omega
theorem long_reads (a : ByteArray) (q : Nat) (hq : a.size = q + 24) : Reads 2069 longF a (yOf (nval ((a.extract q a.size).extract 9 11))) (monOf ((a.extract q a.size).extract 5 8)) (nval ((a.extract q a.size).extract 2 4)) (nval (((a.extract q a.size).extract 12 20).extract 0 2)) (nval (((a.extract q a.size).extract 12 20).extract 3 5)) (nval (((a.extract q a.size).extract 12 20).extract 6 8)) := by
  intro y m d h i s hv hz ha
  obtain ⟨b1, b2, b3, b4, b5, b6, b7, b8, b9, _⟩ := vbd hv
  have hsz := long_size (wdN' (secs y m d h i s)) y m d h i s b3 b4
  have hr : (a.extract q a.size).data.toList = longTail y m d h i s := by
    rw [ha]
    refine long_tail ?_ b3 b4 rfl
    rw [ha] at hq
    unfold longF at hq
    omega
  obtain ⟨p1, p2, p3, p4⟩ := tail_pos hr b3 b4
  obtain ⟨c1, c2, c3⟩ := clock_nums p4 b7 b8 b9
  rw [nval_mod p1, p2, monOf_mon b3 b4, nval_dig p3 b5, c1, c2, c3, show (10 : Nat) ^ 2 = 100 from rfl, yOf_mod b1 hz]
  exact ⟨rfl, rfl, rfl, rfl, rfl, rfl⟩
/-- The year that spec's reader makes of two signs. -/
def sYear (n : Int) : Int := if 70 ≤ n then n + 1900 else n + 2000
theorem sYear_mod {y : Nat} (h0 : 1970 ≤ y) (h1 : y ≤ 2069) : sYear ((y % 100 : Nat) : Int) = y := by unfold sYear; split <;> omega
theorem nS_mod {s : ByteArray} {n p : Nat} (h : s.data.toList = digL n p) : nS s = ((n % 10 ^ p : Nat) : Int) := by unfold nS numS; rw [h, if_pos (digL_numb n p), valN_digL]
/-- The same places, counted from two bytes further on. -/
theorem ext_shift (a : ByteArray) (q k t : Nat) (h2 : q + 2 ≤ a.size) (ht : 2 + t ≤ a.size - q) : ((a.extract (q + 2) a.size).extract k t) = ((a.extract q a.size).extract (2 + k) (2 + t)) := by
  apply bytes_ext
  rw [extract_list, extract_list, extract_list, extract_list]
  have hl := len_data a
  rw [List.take_of_length_le (by omega : a.data.toList.length ≤ a.size)]
  generalize a.data.toList = L
  have e : List.drop (q + 2) L = List.drop 2 (List.drop q L) := by rw [List.drop_drop]
  rw [e]
  generalize List.drop q L = R
  rw [List.take_drop, List.drop_drop]
end Go.Proofs.YtffjpidjhcnnmabDoor
