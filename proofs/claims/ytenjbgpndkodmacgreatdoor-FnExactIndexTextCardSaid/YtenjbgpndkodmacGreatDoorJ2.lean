/-
  Plain functions of chapter 2: what is read of a date's text. No Go in sight. · Plain mathematics of chapter 2: what stands where in a date's text. No Go in sight. · Plain mathematics of chapter 2: of which time a text is. No Go in sight. · What a reader of dates hands back. No Go in sight. · A row of bytes that the call itself makes and appends to, one byte at a time. · Plain functions of chapter 1: five bits a letter. No Go in sight. · The walks over chapter 1: bits. · The walks over chapter 1: impl.Base32. · Plain functions of chapter 1: letters of five bits each, read. No Go in sight. · Plain functions of chapter 1: quotes. No Go in sight. · The walks over chapter 1: Quote. · The walks over chapter 1: impl.ReadBase32. · Plain functions of chapter 1: texts come back from their letters, and letters from their text. No Go in sight. · The walks over chapter 1: spec.ReadBase32. · The walks over chapter 3: ReadLabel (both).
-/
import Derived.Test.YtenjbgpndkodmacGreatDoorJ1
import Derived.Test.YtenjbgpndkodmacGreatDoorProg
import Derived.OwnWalk
import Derived.Laws.OwnMore
namespace Go.Proofs.YtenjbgpndkodmacGreatDoor
set_option linter.unusedVariables false
set_option linter.unusedSimpArgs false
open Go.RowKit

def monGo (s : ByteArray) : Nat → Nat
  | 0 => 0
  | n + 1 => if eqB (monB (12 - n)) s = true then 12 - n else monGo s n
/-- The month of that name; 0 if there is none. -/
def monOf (s : ByteArray) : Nat := monGo s 12
theorem monGo_yes {s : ByteArray} {k : Nat} (h0 : 1 ≤ k) (h1 : k ≤ 12) (h : eqB (monB k) s = true) : monGo s (13 - k) = k := by
  rw [show 13 - k = (12 - k) + 1 by omega, monGo, show 12 - (12 - k) = k by omega, if_pos h]
theorem monGo_no {s : ByteArray} {k : Nat} (h0 : 1 ≤ k) (h1 : k ≤ 12) (h : eqB (monB k) s = false) : monGo s (13 - k) = monGo s (13 - (k + 1)) := by
  rw [show 13 - k = (12 - k) + 1 by omega, monGo, show 12 - (12 - k) = k by omega, if_neg (by rw [h]; decide), show 13 - (k + 1) = 12 - k by omega]
theorem monGo_le (s : ByteArray) (n : Nat) : monGo s n ≤ 12 := by
  induction n with
  | zero => simp [monGo]
  | succ n ih => rw [monGo]; split <;> omega
theorem monOf_le (s : ByteArray) : monOf s ≤ 12 := monGo_le s 12
theorem monL_inj : ∀ j, j < 13 → ∀ m, m < 13 → monL j = monL m → j = m := by decide
theorem monB_inj {j m : Nat} (hj : j ≤ 12) (hm : m ≤ 12) (h : monB j = monB m) : j = m := by
  have h1 : (monB j).data.toList = (monB m).data.toList := by rw [h]
  exact monL_inj j (by omega) m (by omega) h1
theorem monGo_mon {m : Nat} (h1 : m ≤ 12) : ∀ n k, k + n = m → 1 ≤ k → monGo (monB m) (13 - k) = m
  | 0, k, h, h0 => by
    obtain rfl : k = m := by omega
    exact monGo_yes h0 h1 (eqB_self _)
  | n + 1, k, h, h0 => by
    rw [monGo_no h0 (by omega) (Bool.eq_false_iff.2 fun hh => by have := monB_inj (by omega) h1 (eqB_iff.1 hh); omega)]
    exact monGo_mon h1 n (k + 1) (by omega) (by omega)
theorem monOf_mon {m : Nat} (h0 : 1 ≤ m) (h1 : m ≤ 12) : monOf (monB m) = m := monGo_mon h1 (m - 1) 1 (by omega) (by omega)
def nval (s : ByteArray) : Nat := valN s.data.toList
theorem nval_lt (s : ByteArray) (p : Nat) (h : s.size ≤ p) : nval s < 10 ^ p := by
  have h1 := valN_lt s.data.toList
  rw [len_data] at h1
  exact Nat.lt_of_lt_of_le h1 (Nat.pow_le_pow_right (by decide) h)
theorem nval_4 (s : ByteArray) (h : s.size ≤ 4) : nval s < 10000 := nval_lt s 4 h
theorem nval_2 (s : ByteArray) (h : s.size ≤ 2) : nval s < 100 := nval_lt s 2 h
theorem ext_size (s : ByteArray) (a b : Nat) (h : a ≤ b) (hb : b ≤ s.size) : (s.extract a b).size = b - a := by
  rw [ByteArray.size_extract]; omega
/-- What the program takes a text's parts for. -/
def yOf (two : Nat) : Nat := if two ≤ 69 then 2000 + two else 1900 + two
theorem nval_dig {s : ByteArray} {n p : Nat} (h : s.data.toList = digL n p) (hn : n < 10 ^ p) : nval s = n := by unfold nval; rw [h, valN_dig n p hn]
theorem nval_mod {s : ByteArray} {n p : Nat} (h : s.data.toList = digL n p) : nval s = n % 10 ^ p := by unfold nval; rw [h, valN_digL]
end Go.Proofs.YtenjbgpndkodmacGreatDoor
namespace Go.Proofs.YtenjbgpndkodmacGreatDoor
set_option linter.unusedVariables false
set_option linter.unusedSimpArgs false
open Go.RowKit

/-- The day of the week, 0 for Monday. -/
def wdN' (t : Int) : Nat := ((3 + t / 86400) % 7).toNat
theorem wdN'_lt (t : Int) : wdN' t < 7 := by unfold wdN'; omega
theorem app_list (a b : ByteArray) : (a ++ b).data.toList = a.data.toList ++ b.data.toList := by rw [ByteArray.data_append]; simp
def clockL (h i s : Nat) : List UInt8 := digL h 2 ++ [58] ++ digL i 2 ++ [58] ++ digL s 2
theorem clock_list (h i s : Nat) : (clockB h i s).data.toList = clockL h i s := by
  unfold clockB clockL
  simp only [app_list, digB_list]
theorem clockL_len (h i s : Nat) : (clockL h i s).length = 8 := by simp [clockL, digL_length]
theorem clock_pos {c : ByteArray} {h i s : Nat} (hc : c.data.toList = clockL h i s) :
    (c.extract 0 2).data.toList = digL h 2 ∧ (c.extract 3 5).data.toList = digL i 2 ∧ (c.extract 6 8).data.toList = digL s 2 := by
  refine ⟨mid_bytes c [] (digL h 2) ([58] ++ digL i 2 ++ [58] ++ digL s 2) 0 2 ?_ rfl ?_, mid_bytes c (digL h 2 ++ [58]) (digL i 2) ([58] ++ digL s 2) 3 5 ?_ ?_ ?_, mid_bytes c (digL h 2 ++ [58] ++ digL i 2 ++ [58]) (digL s 2) [] 6 8 ?_ ?_ ?_⟩
  all_goals first | (rw [hc]; simp [clockL]) | simp [digL_length]
/-- The parts of a clock, as numbers. -/
theorem clock_nums {c : ByteArray} {h i s : Nat} (hc : c.data.toList = clockL h i s) (hh : h < 100) (hi : i < 100) (hs : s < 100) :
    nval (c.extract 0 2) = h ∧ nval (c.extract 3 5) = i ∧ nval (c.extract 6 8) = s := by
  obtain ⟨a, b, d⟩ := clock_pos hc
  exact ⟨nval_dig a hh, nval_dig b hi, nval_dig d hs⟩
/-! The records' form. -/
theorem warc_list (y m d h i s : Nat) : (warcB y m d h i s).data.toList = digL y 4 ++ [45] ++ digL m 2 ++ [45] ++ digL d 2 ++ [84] ++ clockL h i s ++ [90] := by
  unfold warcB
  simp only [app_list, digB_list, clock_list]
theorem warc_size (y m d h i s : Nat) : (warcB y m d h i s).size = 20 := by
  rw [← len_data, warc_list]; simp [digL_length, clockL_len]
theorem warc_pos (y m d h i s : Nat) : ((warcB y m d h i s).extract 0 4).data.toList = digL y 4 ∧ ((warcB y m d h i s).extract 5 7).data.toList = digL m 2 ∧ ((warcB y m d h i s).extract 8 10).data.toList = digL d 2 ∧ ((warcB y m d h i s).extract 11 19).data.toList = clockL h i s := by
  refine ⟨mid_bytes _ [] (digL y 4) ([45] ++ digL m 2 ++ [45] ++ digL d 2 ++ [84] ++ clockL h i s ++ [90]) 0 4 ?_ rfl ?_, mid_bytes _ (digL y 4 ++ [45]) (digL m 2) ([45] ++ digL d 2 ++ [84] ++ clockL h i s ++ [90]) 5 7 ?_ ?_ ?_,
    mid_bytes _ (digL y 4 ++ [45] ++ digL m 2 ++ [45]) (digL d 2) ([84] ++ clockL h i s ++ [90]) 8 10 ?_ ?_ ?_, mid_bytes _ (digL y 4 ++ [45] ++ digL m 2 ++ [45] ++ digL d 2 ++ [84]) (clockL h i s) [90] 11 19 ?_ ?_ ?_⟩
  all_goals first | (rw [warc_list]; done) | (rw [warc_list]; simp; done) | (simp [digL_length, clockL_len]; done)
/-! The stamp. -/
theorem stamp_list (y m d h i s : Nat) : (stampB y m d h i s).data.toList = digL y 4 ++ digL m 2 ++ digL d 2 ++ digL h 2 ++ digL i 2 ++ digL s 2 := by
  unfold stampB
  simp only [app_list, digB_list]
theorem stamp_size (y m d h i s : Nat) : (stampB y m d h i s).size = 14 := by
  rw [← len_data, stamp_list]; simp [digL_length]
theorem stamp_pos (y m d h i s : Nat) : ((stampB y m d h i s).extract 0 4).data.toList = digL y 4 ∧ ((stampB y m d h i s).extract 4 6).data.toList = digL m 2 ∧ ((stampB y m d h i s).extract 6 8).data.toList = digL d 2 ∧
    ((stampB y m d h i s).extract 8 10).data.toList = digL h 2 ∧ ((stampB y m d h i s).extract 10 12).data.toList = digL i 2 ∧ ((stampB y m d h i s).extract 12 14).data.toList = digL s 2 := by
  refine ⟨mid_bytes _ [] (digL y 4) (digL m 2 ++ digL d 2 ++ digL h 2 ++ digL i 2 ++ digL s 2) 0 4 ?_ rfl ?_, mid_bytes _ (digL y 4) (digL m 2) (digL d 2 ++ digL h 2 ++ digL i 2 ++ digL s 2) 4 6 ?_ ?_ ?_,
    mid_bytes _ (digL y 4 ++ digL m 2) (digL d 2) (digL h 2 ++ digL i 2 ++ digL s 2) 6 8 ?_ ?_ ?_, mid_bytes _ (digL y 4 ++ digL m 2 ++ digL d 2) (digL h 2) (digL i 2 ++ digL s 2) 8 10 ?_ ?_ ?_,
    mid_bytes _ (digL y 4 ++ digL m 2 ++ digL d 2 ++ digL h 2) (digL i 2) (digL s 2) 10 12 ?_ ?_ ?_, mid_bytes _ (digL y 4 ++ digL m 2 ++ digL d 2 ++ digL h 2 ++ digL i 2) (digL s 2) [] 12 14 ?_ ?_ ?_⟩
  all_goals first | (rw [stamp_list]; done) | (rw [stamp_list]; simp; done) | (simp [digL_length]; done)
/-! The three of messages. -/
theorem dayS_list (k : Nat) (h : k < 7) : (dayS k).data.toList = (dayL k).take 3 ∧ ((dayL k).take 3).length = 3 := by
  constructor
  · unfold dayS; rw [extract_list]; rfl
  · rcases seven h with rfl | rfl | rfl | rfl | rfl | rfl | rfl <;> decide
theorem dayB_list (k : Nat) : (dayB k).data.toList = dayL k := rfl
theorem monB_list (k : Nat) : (monB k).data.toList = monL k := rfl
theorem monL_len {k : Nat} (h0 : 1 ≤ k) (h1 : k ≤ 12) : (monL k).length = 3 := by
  rcases twelve h0 h1 with rfl | rfl | rfl | rfl | rfl | rfl | rfl | rfl | rfl | rfl | rfl | rfl <;> decide
theorem http_list (wd y m d h i s : Nat) (hw : wd < 7) : (httpB wd y m d h i s).data.toList = (dayL wd).take 3 ++ [44, 32] ++ digL d 2 ++ [32] ++ monL m ++ [32] ++ digL y 4 ++ [32] ++ clockL h i s ++ [32, 71, 77, 84] := by
  unfold httpB
  simp only [app_list, digB_list, clock_list, monB_list, (dayS_list wd hw).1]
theorem http_size (wd y m d h i s : Nat) (hw : wd < 7) (h0 : 1 ≤ m) (h1 : m ≤ 12) : (httpB wd y m d h i s).size = 29 := by
  rw [← len_data, http_list _ _ _ _ _ _ _ hw]; simp only [List.length_append, digL_length, clockL_len, monL_len h0 h1, (dayS_list wd hw).2]; rfl
theorem http_pos (wd y m d h i s : Nat) (hw : wd < 7) (h0 : 1 ≤ m) (h1 : m ≤ 12) : ((httpB wd y m d h i s).extract 12 16).data.toList = digL y 4 ∧ (httpB wd y m d h i s).extract 8 11 = monB m ∧ ((httpB wd y m d h i s).extract 5 7).data.toList = digL d 2 ∧ ((httpB wd y m d h i s).extract 17 25).data.toList = clockL h i s := by
  have hL := http_list wd y m d h i s hw
  have l1 := (dayS_list wd hw).2
  have l2 := monL_len h0 h1
  refine ⟨mid_bytes _ ((dayL wd).take 3 ++ [44, 32] ++ digL d 2 ++ [32] ++ monL m ++ [32]) (digL y 4) ([32] ++ clockL h i s ++ [32, 71, 77, 84]) 12 16 ?_ ?_ ?_, bytes_ext (mid_bytes _ ((dayL wd).take 3 ++ [44, 32] ++ digL d 2 ++ [32]) (monL m) ([32] ++ digL y 4 ++ [32] ++ clockL h i s ++ [32, 71, 77, 84]) 8 11 ?_ ?_ ?_),
    mid_bytes _ ((dayL wd).take 3 ++ [44, 32]) (digL d 2) ([32] ++ monL m ++ [32] ++ digL y 4 ++ [32] ++ clockL h i s ++ [32, 71, 77, 84]) 5 7 ?_ ?_ ?_, mid_bytes _ ((dayL wd).take 3 ++ [44, 32] ++ digL d 2 ++ [32] ++ monL m ++ [32] ++ digL y 4 ++ [32]) (clockL h i s) [32, 71, 77, 84] 17 25 ?_ ?_ ?_⟩
  all_goals first | (rw [hL]; done) | (rw [hL]; simp; done) | rfl | (simp only [List.length_append, digL_length, clockL_len, l1, l2, List.length_cons, List.length_nil]; done)
/-- A line's day. -/
def bdayL (d : Nat) : List UInt8 := if d < 10 then [32] ++ digL d 1 else digL d 2
theorem bday_list (d : Nat) : (bday d).data.toList = bdayL d := by
  unfold bday bdayL
  split
  · rw [app_list]; rfl
  · rfl
theorem bdayL_len (d : Nat) : (bdayL d).length = 2 := by unfold bdayL; split <;> simp [digL_length]
theorem bday_val (d : Nat) (h : d < 100) : valN (bdayL d) = d := by
  unfold bdayL
  split
  · rename_i h'
    rw [show digL d 1 = [UInt8.ofNat (48 + d / 10 ^ 0 % 10)] from rfl]
    have : ([32] ++ [UInt8.ofNat (48 + d / 10 ^ 0 % 10)] : List UInt8) = [32] ++ [UInt8.ofNat (48 + d)] := by congr 4; omega
    rw [this, valN_snoc, dv_ofNat d h']
    have : valN [32] = 0 := by decide
    omega
  · exact valN_dig d 2 h
theorem bday_numb (d : Nat) : (bdayL d).all numb = true := by
  unfold bdayL
  split
  · rw [List.all_append, digL_numb]; decide
  · exact digL_numb d 2
theorem line_list (wd y m d h i s : Nat) (hw : wd < 7) : (lineB wd y m d h i s).data.toList = (dayL wd).take 3 ++ [32] ++ monL m ++ [32] ++ bdayL d ++ [32] ++ clockL h i s ++ [32] ++ digL y 4 := by
  unfold lineB
  simp only [app_list, digB_list, clock_list, monB_list, bday_list, (dayS_list wd hw).1]
theorem line_size (wd y m d h i s : Nat) (hw : wd < 7) (h0 : 1 ≤ m) (h1 : m ≤ 12) : (lineB wd y m d h i s).size = 24 := by
  rw [← len_data, line_list _ _ _ _ _ _ _ hw]; simp only [List.length_append, digL_length, clockL_len, bdayL_len, monL_len h0 h1, (dayS_list wd hw).2]; rfl
theorem line_pos (wd y m d h i s : Nat) (hw : wd < 7) (h0 : 1 ≤ m) (h1 : m ≤ 12) : ((lineB wd y m d h i s).extract 20 24).data.toList = digL y 4 ∧ (lineB wd y m d h i s).extract 4 7 = monB m ∧ ((lineB wd y m d h i s).extract 8 10).data.toList = bdayL d ∧ ((lineB wd y m d h i s).extract 11 19).data.toList = clockL h i s := by
  have hL := line_list wd y m d h i s hw
  have l1 := (dayS_list wd hw).2
  have l2 := monL_len h0 h1
  refine ⟨mid_bytes _ ((dayL wd).take 3 ++ [32] ++ monL m ++ [32] ++ bdayL d ++ [32] ++ clockL h i s ++ [32]) (digL y 4) [] 20 24 ?_ ?_ ?_, bytes_ext (mid_bytes _ ((dayL wd).take 3 ++ [32]) (monL m) ([32] ++ bdayL d ++ [32] ++ clockL h i s ++ [32] ++ digL y 4) 4 7 ?_ ?_ ?_),
    mid_bytes _ ((dayL wd).take 3 ++ [32] ++ monL m ++ [32]) (bdayL d) ([32] ++ clockL h i s ++ [32] ++ digL y 4) 8 10 ?_ ?_ ?_, mid_bytes _ ((dayL wd).take 3 ++ [32] ++ monL m ++ [32] ++ bdayL d ++ [32]) (clockL h i s) ([32] ++ digL y 4) 11 19 ?_ ?_ ?_⟩
  all_goals first | (rw [hL]; done) | (rw [hL]; simp; done) | rfl | (simp only [List.length_append, digL_length, clockL_len, bdayL_len, l1, l2, List.length_cons, List.length_nil]; done)
def longTail (y m d h i s : Nat) : List UInt8 := [44, 32] ++ digL d 2 ++ [45] ++ monL m ++ [45] ++ digL y 2 ++ [32] ++ clockL h i s ++ [32, 71, 77, 84]
theorem long_list (wd y m d h i s : Nat) : (longB wd y m d h i s).data.toList = dayL wd ++ longTail y m d h i s := by
  unfold longB longTail
  simp only [app_list, digB_list, clock_list, monB_list, dayB_list, List.append_assoc]
theorem longTail_len (y m d h i s : Nat) (h0 : 1 ≤ m) (h1 : m ≤ 12) : (longTail y m d h i s).length = 24 := by
  unfold longTail; simp only [List.length_append, digL_length, clockL_len, monL_len h0 h1]; rfl
theorem long_size (wd y m d h i s : Nat) (h0 : 1 ≤ m) (h1 : m ≤ 12) : (longB wd y m d h i s).size = (dayB wd).size + 24 := by
  rw [← len_data, long_list, List.length_append, longTail_len _ _ _ _ _ _ h0 h1, ← dayB_list, len_data]
/-- Behind the day's name. -/
theorem long_tail {wd y m d h i s q n : Nat} (hq : q = (dayB wd).size) (h0 : 1 ≤ m) (h1 : m ≤ 12) (hn : n = (longB wd y m d h i s).size) : ((longB wd y m d h i s).extract q n).data.toList = longTail y m d h i s := by
  subst hq hn
  refine mid_bytes _ (dayL wd) (longTail y m d h i s) [] _ _ (by rw [long_list]; simp) (by rw [← dayB_list, len_data]) ?_
  rw [long_size _ _ _ _ _ _ _ h0 h1, longTail_len _ _ _ _ _ _ h0 h1]
theorem tail_pos {r : ByteArray} {y m d h i s : Nat} (hr : r.data.toList = longTail y m d h i s) (h0 : 1 ≤ m) (h1 : m ≤ 12) : (r.extract 9 11).data.toList = digL y 2 ∧ r.extract 5 8 = monB m ∧ (r.extract 2 4).data.toList = digL d 2 ∧ (r.extract 12 20).data.toList = clockL h i s := by
  have l2 := monL_len h0 h1
  refine ⟨mid_bytes _ ([44, 32] ++ digL d 2 ++ [45] ++ monL m ++ [45]) (digL y 2) ([32] ++ clockL h i s ++ [32, 71, 77, 84]) 9 11 ?_ ?_ ?_, bytes_ext (mid_bytes _ ([44, 32] ++ digL d 2 ++ [45]) (monL m) ([45] ++ digL y 2 ++ [32] ++ clockL h i s ++ [32, 71, 77, 84]) 5 8 ?_ ?_ ?_),
    mid_bytes _ [44, 32] (digL d 2) ([45] ++ monL m ++ [45] ++ digL y 2 ++ [32] ++ clockL h i s ++ [32, 71, 77, 84]) 2 4 ?_ ?_ ?_, mid_bytes _ ([44, 32] ++ digL d 2 ++ [45] ++ monL m ++ [45] ++ digL y 2 ++ [32]) (clockL h i s) [32, 71, 77, 84] 12 20 ?_ ?_ ?_⟩
  all_goals first | (rw [hr]; simp [longTail]; done) | rfl | (simp only [List.length_append, digL_length, clockL_len, l2, List.length_cons, List.length_nil]; done)
end Go.Proofs.YtenjbgpndkodmacGreatDoor
namespace Go.Proofs.YtenjbgpndkodmacGreatDoor
set_option linter.unusedVariables false
set_option linter.unusedSimpArgs false
open Go.RowKit

abbrev Form := Nat → Nat → Nat → Nat → Nat → Nat → ByteArray
/-- a is the text of the time t, in the form F, of years up to Z. -/
def IsF (Z : Nat) (F : Form) (a : ByteArray) (t : Int) : Prop := ∃ y m d h i s : Nat, vld y m d h i s ∧ y ≤ Z ∧ t = secs y m d h i s ∧ a = F y m d h i s
/-- What is answered: the time, and true; else 0 and false. -/
def Res (P : Int → Prop) (t : Int) (b : Bool) : Prop := (b = true ∧ P t) ∨ (b = false ∧ t = 0 ∧ ∀ t', ¬ P t')
theorem Res.unique {P : Int → Prop} (hP : ∀ t t', P t → P t' → t = t') {t t' : Int} {b b' : Bool} (h : Res P t b) (h' : Res P t' b') : t = t' ∧ b = b' := by
  rcases h with ⟨rfl, h⟩ | ⟨rfl, rfl, h⟩ <;> rcases h' with ⟨rfl, h'⟩ | ⟨rfl, rfl, h'⟩
  · exact ⟨hP _ _ h h', rfl⟩
  · exact absurd h (h' _)
  · exact absurd h' (h _)
  · exact ⟨rfl, rfl⟩
/-- The parts that are read are those that were written. -/
def Reads (Z : Nat) (F : Form) (a : ByteArray) (Y M D H I S : Int) : Prop := ∀ y m d h i s : Nat, vld y m d h i s → y ≤ Z → a = F y m d h i s → Y = y ∧ M = m ∧ D = d ∧ H = h ∧ I = i ∧ S = s
theorem Reads.unique {Z : Nat} {F : Form} {a : ByteArray} {Y M D H I S : Int} (hr : Reads Z F a Y M D H I S) (t t' : Int) (h : IsF Z F a t) (h' : IsF Z F a t') : t = t' := by
  obtain ⟨y, m, d, h, i, s, hv, hz, e, ea⟩ := h
  obtain ⟨y', m', d', h', i', s', hv', hz', e', ea'⟩ := h'
  obtain ⟨a1, a2, a3, a4, a5, a6⟩ := hr _ _ _ _ _ _ hv hz ea
  obtain ⟨b1, b2, b3, b4, b5, b6⟩ := hr _ _ _ _ _ _ hv' hz' ea'
  rw [e, e', ← a1, ← a2, ← a3, ← a4, ← a5, ← a6, b1, b2, b3, b4, b5, b6]
theorem Reads.none_of {Z : Nat} {F : Form} {a : ByteArray} {Y M D H I S : Int} (hr : Reads Z F a Y M D H I S) (hv : vldB Y M D H I S = false) (t : Int) : ¬ IsF Z F a t := by
  rintro ⟨y, m, d, h, i, s, hv', hz, _, ea⟩
  obtain ⟨rfl, rfl, rfl, rfl, rfl, rfl⟩ := hr _ _ _ _ _ _ hv' hz ea
  rw [vldB_iff.2 hv'] at hv
  cases hv
theorem Reads.none_ne {Z : Nat} {F : Form} {a : ByteArray} {y m d h i s : Nat} (hr : Reads Z F a y m d h i s) (hne : a ≠ F y m d h i s) (t : Int) : ¬ IsF Z F a t := by
  rintro ⟨y', m', d', h', i', s', hv', hz, _, ea⟩
  obtain ⟨e1, e2, e3, e4, e5, e6⟩ := hr _ _ _ _ _ _ hv' hz ea
  apply hne
  rw [ea, Int.ofNat_inj.1 e1, Int.ofNat_inj.1 e2, Int.ofNat_inj.1 e3, Int.ofNat_inj.1 e4, Int.ofNat_inj.1 e5, Int.ofNat_inj.1 e6]
/-- Six whole numbers out of a right day and hour. -/
theorem nats_of {Y M D H I S : Int} (hv : vldB Y M D H I S = true) : ∃ y m d h i s : Nat, Y = y ∧ M = m ∧ D = d ∧ H = h ∧ I = i ∧ S = s ∧ vld y m d h i s := by
  have v := vldB_iff.1 hv
  have v' := v
  unfold vld at v'
  obtain ⟨y, rfl⟩ := Int.eq_ofNat_of_zero_le (a := Y) (by omega)
  obtain ⟨m, rfl⟩ := Int.eq_ofNat_of_zero_le (a := M) (by omega)
  obtain ⟨d, rfl⟩ := Int.eq_ofNat_of_zero_le (a := D) (by omega)
  obtain ⟨h, rfl⟩ := Int.eq_ofNat_of_zero_le (a := H) (by omega)
  obtain ⟨i, rfl⟩ := Int.eq_ofNat_of_zero_le (a := I) (by omega)
  obtain ⟨s, rfl⟩ := Int.eq_ofNat_of_zero_le (a := S) (by omega)
  exact ⟨y, m, d, h, i, s, rfl, rfl, rfl, rfl, rfl, rfl, v⟩
def nS (s : ByteArray) : Int := numS s.data.toList
theorem nS_dig {s : ByteArray} {n p : Nat} (h : s.data.toList = digL n p) (hn : n < 10 ^ p) : nS s = n := by unfold nS; rw [h, numS_dig n p hn]
theorem nS_clock {c : ByteArray} {h i s : Nat} (hc : c.data.toList = clockL h i s) (hh : h < 100) (hi : i < 100) (hs : s < 100) :
    nS (c.extract 0 2) = h ∧ nS (c.extract 3 5) = i ∧ nS (c.extract 6 8) = s := by
  obtain ⟨a, b, d⟩ := clock_pos hc
  exact ⟨nS_dig a hh, nS_dig b hi, nS_dig d hs⟩
def sMon (s : ByteArray) : Int := if monOf s = 0 then -1 else (monOf s : Int)
theorem sMon_mon {m : Nat} (h0 : 1 ≤ m) (h1 : m ≤ 12) : sMon (monB m) = m := by
  unfold sMon; rw [monOf_mon h0 h1, if_neg (by omega)]
theorem vbd {y m d h i s : Nat} (hv : vld y m d h i s) : 1970 ≤ y ∧ y < 10000 ∧ 1 ≤ m ∧ m ≤ 12 ∧ d < 100 ∧ m < 100 ∧ h < 100 ∧ i < 100 ∧ s < 100 ∧ 1 ≤ d := by
  have := dim_bd y m
  unfold vld at hv
  omega
def warcF : Form := warcB
def stampF : Form := stampB
def httpF : Form := fun y m d h i s => httpB (wdN' (secs y m d h i s)) y m d h i s
def longF : Form := fun y m d h i s => longB (wdN' (secs y m d h i s)) y m d h i s
def lineF : Form := fun y m d h i s => lineB (wdN' (secs y m d h i s)) y m d h i s
theorem warc_reads (a : ByteArray) : Reads 9999 warcF a (nval (a.extract 0 4)) (nval (a.extract 5 7)) (nval (a.extract 8 10)) (nval ((a.extract 11 19).extract 0 2)) (nval ((a.extract 11 19).extract 3 5)) (nval ((a.extract 11 19).extract 6 8)) := by
  rintro y m d h i s hv _ rfl
  obtain ⟨_, b2, _, _, b5, b6, b7, b8, b9, _⟩ := vbd hv
  obtain ⟨p1, p2, p3, p4⟩ := warc_pos y m d h i s
  obtain ⟨c1, c2, c3⟩ := clock_nums p4 b7 b8 b9
  unfold warcF
  rw [nval_dig p1 b2, nval_dig p2 b6, nval_dig p3 b5, c1, c2, c3]
  exact ⟨rfl, rfl, rfl, rfl, rfl, rfl⟩
theorem warc_readsS (a : ByteArray) : Reads 9999 warcF a (nS (a.extract 0 4)) (nS (a.extract 5 7)) (nS (a.extract 8 10)) (nS ((a.extract 11 19).extract 0 2)) (nS ((a.extract 11 19).extract 3 5)) (nS ((a.extract 11 19).extract 6 8)) := by
  rintro y m d h i s hv _ rfl
  obtain ⟨_, b2, _, _, b5, b6, b7, b8, b9, _⟩ := vbd hv
  obtain ⟨p1, p2, p3, p4⟩ := warc_pos y m d h i s
  obtain ⟨c1, c2, c3⟩ := nS_clock p4 b7 b8 b9
  unfold warcF
  exact ⟨nS_dig p1 b2, nS_dig p2 b6, nS_dig p3 b5, c1, c2, c3⟩
theorem stamp_reads (a : ByteArray) : Reads 9999 stampF a (nval (a.extract 0 4)) (nval (a.extract 4 6)) (nval (a.extract 6 8)) (nval (a.extract 8 10)) (nval (a.extract 10 12)) (nval (a.extract 12 14)) := by
  rintro y m d h i s hv _ rfl
  obtain ⟨_, b2, _, _, b5, b6, b7, b8, b9, _⟩ := vbd hv
  obtain ⟨p1, p2, p3, p4, p5, p6⟩ := stamp_pos y m d h i s
  unfold stampF
  rw [nval_dig p1 b2, nval_dig p2 b6, nval_dig p3 b5, nval_dig p4 b7, nval_dig p5 b8, nval_dig p6 b9]
  exact ⟨rfl, rfl, rfl, rfl, rfl, rfl⟩
/-- The clock that spec.ReadStamp puts together. -/
def colons (a b c : ByteArray) : ByteArray := a ++ ⟨#[58]⟩ ++ b ++ ⟨#[58]⟩ ++ c
theorem colons_pos {a b c : ByteArray} (ha : a.size = 2) (hb : b.size = 2) (hc : c.size = 2) : (colons a b c).size = 8 ∧ ((colons a b c).extract 0 2) = a ∧ ((colons a b c).extract 3 5) = b ∧ ((colons a b c).extract 6 8) = c := by
  have hl : (colons a b c).data.toList = a.data.toList ++ [58] ++ b.data.toList ++ [58] ++ c.data.toList := by unfold colons; simp only [app_list]
  have la := len_data a
  have lb := len_data b
  have lc := len_data c
  refine ⟨?_, bytes_ext (mid_bytes _ [] a.data.toList ([58] ++ b.data.toList ++ [58] ++ c.data.toList) 0 2 ?_ rfl ?_), bytes_ext (mid_bytes _ (a.data.toList ++ [58]) b.data.toList ([58] ++ c.data.toList) 3 5 ?_ ?_ ?_), bytes_ext (mid_bytes _ (a.data.toList ++ [58] ++ b.data.toList ++ [58]) c.data.toList [] 6 8 ?_ ?_ ?_)⟩
  · rw [← len_data, hl]; simp only [List.length_append, la, lb, lc, List.length_cons, List.length_nil]; omega
  all_goals first | (rw [hl]; done) | (rw [hl]; simp; done) | (simp only [List.length_append, la, lb, lc, List.length_cons, List.length_nil]; omega)
theorem stamp_readsS (a : ByteArray) : Reads 9999 stampF a (nS (a.extract 0 4)) (nS (a.extract 4 6)) (nS (a.extract 6 8)) (nS (a.extract 8 10)) (nS (a.extract 10 12)) (nS (a.extract 12 14)) := by
  rintro y m d h i s hv _ rfl
  obtain ⟨_, b2, _, _, b5, b6, b7, b8, b9, _⟩ := vbd hv
  obtain ⟨p1, p2, p3, p4, p5, p6⟩ := stamp_pos y m d h i s
  unfold stampF
  exact ⟨nS_dig p1 b2, nS_dig p2 b6, nS_dig p3 b5, nS_dig p4 b7, nS_dig p5 b8, nS_dig p6 b9⟩
theorem http_reads (a : ByteArray) : Reads 9999 httpF a (nval (a.extract 12 16)) (monOf (a.extract 8 11)) (nval (a.extract 5 7)) (nval ((a.extract 17 25).extract 0 2)) (nval ((a.extract 17 25).extract 3 5)) (nval ((a.extract 17 25).extract 6 8)) := by
  rintro y m d h i s hv _ rfl
  obtain ⟨_, b2, b3, b4, b5, b6, b7, b8, b9, _⟩ := vbd hv
  obtain ⟨p1, p2, p3, p4⟩ := http_pos (wdN' (secs y m d h i s)) y m d h i s (wdN'_lt _) b3 b4
  obtain ⟨c1, c2, c3⟩ := clock_nums p4 b7 b8 b9
  unfold httpF
  rw [nval_dig p1 b2, p2, monOf_mon b3 b4, nval_dig p3 b5, c1, c2, c3]
  exact ⟨rfl, rfl, rfl, rfl, rfl, rfl⟩
theorem http_readsS (a : ByteArray) : Reads 9999 httpF a (nS (a.extract 12 16)) (sMon (a.extract 8 11)) (nS (a.extract 5 7)) (nS ((a.extract 17 25).extract 0 2)) (nS ((a.extract 17 25).extract 3 5)) (nS ((a.extract 17 25).extract 6 8)) := by
  rintro y m d h i s hv _ rfl
  obtain ⟨_, b2, b3, b4, b5, b6, b7, b8, b9, _⟩ := vbd hv
  obtain ⟨p1, p2, p3, p4⟩ := http_pos (wdN' (secs y m d h i s)) y m d h i s (wdN'_lt _) b3 b4
  obtain ⟨c1, c2, c3⟩ := nS_clock p4 b7 b8 b9
  unfold httpF
  rw [p2]
  exact ⟨nS_dig p1 b2, sMon_mon b3 b4, nS_dig p3 b5, c1, c2, c3⟩
theorem line_reads (a : ByteArray) : Reads 9999 lineF a (nval (a.extract 20 24)) (monOf (a.extract 4 7)) (nval (a.extract 8 10)) (nval ((a.extract 11 19).extract 0 2)) (nval ((a.extract 11 19).extract 3 5)) (nval ((a.extract 11 19).extract 6 8)) := by
  rintro y m d h i s hv _ rfl
  obtain ⟨_, b2, b3, b4, b5, b6, b7, b8, b9, _⟩ := vbd hv
  obtain ⟨p1, p2, p3, p4⟩ := line_pos (wdN' (secs y m d h i s)) y m d h i s (wdN'_lt _) b3 b4
  obtain ⟨c1, c2, c3⟩ := clock_nums p4 b7 b8 b9
  unfold lineF
  have e3 : nval ((lineB (wdN' (secs y m d h i s)) y m d h i s).extract 8 10) = d := by unfold nval; rw [p3, bday_val d b5]
  rw [nval_dig p1 b2, p2, monOf_mon b3 b4, e3, c1, c2, c3]
  exact ⟨rfl, rfl, rfl, rfl, rfl, rfl⟩
theorem line_readsS (a : ByteArray) : Reads 9999 lineF a (nS (a.extract 20 24)) (sMon (a.extract 4 7)) (nS (a.extract 8 10)) (nS ((a.extract 11 19).extract 0 2)) (nS ((a.extract 11 19).extract 3 5)) (nS ((a.extract 11 19).extract 6 8)) := by
  rintro y m d h i s hv _ rfl
  obtain ⟨_, b2, b3, b4, b5, b6, b7, b8, b9, _⟩ := vbd hv
  obtain ⟨p1, p2, p3, p4⟩ := line_pos (wdN' (secs y m d h i s)) y m d h i s (wdN'_lt _) b3 b4
  obtain ⟨c1, c2, c3⟩ := nS_clock p4 b7 b8 b9
  unfold lineF
  rw [p2]
  refine ⟨nS_dig p1 b2, sMon_mon b3 b4, ?_, c1, c2, c3⟩
  unfold nS numS
  rw [p3, if_pos (bday_numb d), bday_val d b5]
theorem yOf_mod {y : Nat} (h0 : 1970 ≤ y) (h1 : y ≤ 2069) : yOf (y % 100) = y := by unfold yOf; split <;> omega
theorem yOf_le {n : Nat} (h : n < 100) : yOf n ≤ 2069 := by unfold yOf; split <;> omega
theorem long_reads (a : ByteArray) (q : Nat) (hq : a.size = q + 24) : Reads 2069 longF a (yOf (nval ((a.extract q a.size).extract 9 11))) (monOf ((a.extract q a.size).extract 5 8)) (nval ((a.extract q a.size).extract 2 4)) (nval (((a.extract q a.size).extract 12 20).extract 0 2)) (nval (((a.extract q a.size).extract 12 20).extract 3 5)) (nval (((a.extract q a.size).extract 12 20).extract 6 8)) := by
  intro y m d h i s hv hz ha
  obtain ⟨b1, b2, b3, b4, b5, b6, b7, b8, b9, _⟩ := vbd hv
  have hsz := long_size (wdN' (secs y m d h i s)) y m d h i s b3 b4
  have hr : (a.extract q a.size).data.toList = longTail y m d h i s := by
    rw [ha]
    refine long_tail ?_ b3 b4 rfl
    rw [ha] at hq
    unfold longF at hq
    omega
  obtain ⟨p1, p2, p3, p4⟩ := tail_pos hr b3 b4
  obtain ⟨c1, c2, c3⟩ := clock_nums p4 b7 b8 b9
  rw [nval_mod p1, p2, monOf_mon b3 b4, nval_dig p3 b5, c1, c2, c3, show (10 : Nat) ^ 2 = 100 from rfl, yOf_mod b1 hz]
  exact ⟨rfl, rfl, rfl, rfl, rfl, rfl⟩
/-- The year that spec's reader makes of two signs. -/
def sYear (n : Int) : Int := if 70 ≤ n then n + 1900 else n + 2000
theorem sYear_mod {y : Nat} (h0 : 1970 ≤ y) (h1 : y ≤ 2069) : sYear ((y % 100 : Nat) : Int) = y := by unfold sYear; split <;> omega
theorem nS_mod {s : ByteArray} {n p : Nat} (h : s.data.toList = digL n p) : nS s = ((n % 10 ^ p : Nat) : Int) := by unfold nS numS; rw [h, if_pos (digL_numb n p), valN_digL]
/-- The same places, counted from two bytes further on. -/
theorem ext_shift (a : ByteArray) (q k t : Nat) (h2 : q + 2 ≤ a.size) (ht : 2 + t ≤ a.size - q) : ((a.extract (q + 2) a.size).extract k t) = ((a.extract q a.size).extract (2 + k) (2 + t)) := by
  apply bytes_ext
  rw [extract_list, extract_list, extract_list, extract_list]
  have hl := len_data a
  rw [List.take_of_length_le (by omega : a.data.toList.length ≤ a.size)]
  generalize a.data.toList = L
  have e : List.drop (q + 2) L = List.drop 2 (List.drop q L) := by rw [List.drop_drop]
  rw [e]
  generalize List.drop q L = R
  rw [List.take_drop, List.drop_drop]
end Go.Proofs.YtenjbgpndkodmacGreatDoor
namespace Go.Proofs.YtenjbgpndkodmacGreatDoor
set_option linter.unusedVariables false
set_option linter.unusedSimpArgs false
/-- What is read, where what is written again is x. -/
def rdT (a x : ByteArray) (t : Int) : Int := if eqB a x = true then t else 0
end Go.Proofs.YtenjbgpndkodmacGreatDoor
namespace Go.Proofs.YtenjbgpndkodmacGreatDoor
set_option linter.unusedVariables false
set_option linter.unusedSimpArgs false
open Go.RowKit

def c8 (b : UInt8) : Value := .int .u8 (b.toNat : Int)
/-- The value v is a slice of the call's own that holds the bytes l; nothing that was there in w0 has turned. -/
structure Buf (w0 w : World) (v : Value) (l : List UInt8) : Prop where
  below : Below w0.heap.size w0 w
  own : w.ownsRow w0.heap.size 5 1 v l.length (l.map c8)

theorem Tryz.infoU8 : (Tryz.prog.info? 5).map (fun i => (i.zero, i.size, i.bytes)) = some (some (.int .u8 0), 1, 1) := by kernel_rfl

theorem Buf.start (w : World) : Buf w w (.slice none 0 0) [] := ⟨Below.refl _ _, World.ownsRow_nil _ _ _ _⟩
theorem Buf.alloc {w0 w : World} {v : Value} {l : List UInt8} (h : Buf w0 w v l) (o : Obj) : Buf w0 (w.alloc o) v l :=
  ⟨h.below.alloc h.below.size o, h.own.alloc o⟩
theorem Buf.one (w : World) (n : Int) (y : UInt8) (hy : n = (y.toNat : Int)) : Buf w (w.alloc (.cells #[.int .u8 n] 5)) (.slice (some ⟨w.heap.size, 0, none⟩) 1 1) [y] := by
  subst hy
  exact ⟨(Below.refl _ _).alloc (Nat.le_refl _) _, ⟨by simp, .inr ⟨w.heap.size, 1, #[.int .u8 (y.toNat : Int)], rfl, Nat.le_refl _, heap_alloc_new w _, Nat.le_refl _, by decide, by simp, by simp [c8]⟩⟩⟩
theorem Buf.form {w0 w : World} {v : Value} {l : List UInt8} (h : Buf w0 w v l) : ∃ (a : Option Addr) (c : Nat), v = .slice a l.length c := by
  rcases h.own.2 with ⟨h1, h2⟩ | ⟨g, cap, cur, h1, _⟩
  · exact ⟨none, 0, by rw [h1, h2]⟩
  · exact ⟨_, _, h1⟩
theorem Buf.text {w0 w : World} {v : Value} {l : List UInt8} (h : Buf w0 w v l) :
    (convert 56 9 v).run Tryz.prog w = .ok (.string ⟨l.toArray⟩) w := by
  have hl : l.map (fun b => UInt8.ofNat ((b.toNat : Int)).toNat) = l := by
    conv => rhs; rw [← List.map_id l]
    apply List.map_congr_left
    intro b _
    simp
  rcases h.own.2 with ⟨h1, h2⟩ | ⟨g, cap, cur, h1, _, hh, _, _, _, ht⟩
  · have : l = [] := List.length_eq_zero_iff.1 h2
    subst this
    rw [h1]
    exact run_convert_bytes_nil (P := Tryz.prog) w 56 5 Tryz.underlying56 Tryz.underlying5 0 0 9 Tryz.underlying9
  · subst h1
    have hc : ∀ i, i < l.length → w.cell? ⟨g, 0 + i, none⟩ = some (.int .u8 ((l.map fun b => (b.toNat : Int)).getD i 0)) := by
      intro i hi
      have := h.own.cells (g := g) rfl i (.int .u8 ((l[i].toNat : Int))) (by simp [c8, List.getElem?_eq_getElem hi])
      rw [Addr.add_lit] at this
      rw [this]
      simp [List.getD, List.getElem?_eq_getElem hi]
    have := run_convert_bytes_arg (P := Tryz.prog) w 56 5 Tryz.underlying56 Tryz.underlying5 g 0 l.length cap (l.map fun b => (b.toNat : Int)) (by simp) hc 9 Tryz.underlying9
    rw [this]
    simp only [strOfNums, List.map_map]
    exact congrArg (fun x : Array UInt8 => Result.ok (Value.string ⟨x⟩) w) (congrArg List.toArray hl)
theorem wp_app {ops : Array Oper} {rest : List Oper} {o : Oper} {a : Act} {Q : Exit → Act → World → Prop} {w0 W : World} (hgd : o.guard = none) (s x : Operand)
    (ho : o.op = .call { callee := .builtin .append, args := #[s, x], argTypes := #[56, 56] }) (v : Value) (l : List UInt8) (hs : a.eval s = v) (hbuf : Buf w0 W v l)
    (n : Int) (y : UInt8) (hy : n = (y.toNat : Int)) (hx : a.eval x = .slice (some ⟨W.heap.size, 0, none⟩) 1 1) (hlen : l.length ≤ 1099511627776)
    (h : ∀ v' W', Buf w0 W' v' (l ++ [y]) → wpList Tryz.prog ops Q rest (a.put o.dst v') W') :
    wpList Tryz.prog ops Q (o :: rest) a (W.alloc (.cells #[.int .u8 n] 5)) := by
  subst hy
  obtain ⟨i0, hi, hz0, hz1, hz2⟩ := info_parts Tryz.infoU8
  refine wpList_append_own _ hgd s x 56 ho w0.heap.size 5 i0 (.int .u8 0) 1 1 Tryz.underlying56 hi hz0 hz1 hz2 rfl (by decide) v l.length (l.map c8) hs (hbuf.own.alloc _) ⟨W.heap.size, 0, none⟩ 1 1 [c8 y] hx rfl (cell_one_new _ _ _) (fun u hu => by simp at hu; subst hu; rfl) (by unfold maxLen; omega) (by omega) (by have := hbuf.below.size; simp; omega) ?_
  intro v' W' hown hgrow _
  refine h v' W' ⟨?_, ?_⟩
  · refine (hbuf.alloc _).below.grown hgrow (by have := hbuf.below.size; simp; omega) ?_
    intro k hk
    exact (hbuf.own.lt k hk).1
  · rw [List.length_append, List.length_singleton, List.map_append]
    exact hown
end Go.Proofs.YtenjbgpndkodmacGreatDoor
namespace Go.Proofs.YtenjbgpndkodmacGreatDoor
set_option linter.unusedVariables false
set_option linter.unusedSimpArgs false
open Go.RowKit

theorem wraps_i64s (n : Int) (h₀ : 0 ≤ n) (h₁ : n < 2 ^ 40) : IntKind.i64.wrap n = n := by rw [IntKind.wrap_i64]; omega
theorem or_i64 (i : Nat) (x y : Int) (hx₀ : 0 ≤ x) (hx : x % 2 ^ i = 0) (hx₁ : x < 2 ^ 40) (hy₀ : 0 ≤ y) (hy : y < 2 ^ i) (hy₁ : y < 2 ^ 40) : bits .or .i64 x y = x + y :=
  bits_join .i64 40 (by decide) wraps_i64s i x y hx₀ hx hx₁ hy₀ hy hy₁
theorem and_i64 (i : Nat) (hi : i ≤ 40) (x : Int) (h₀ : 0 ≤ x) (h₁ : x < 2 ^ 40) : bits .and .i64 x (2 ^ i - 1) = x % 2 ^ i :=
  bits_mask .i64 40 (by decide) wraps_i64s i hi x h₀ h₁

/-- Bit k of a text, the highest of each byte first; 0 behind its end. -/
def bit8 (s : ByteArray) (k : Nat) : Nat := (at8 s (k / 8)).toNat / 2 ^ (7 - k % 8) % 2
/-- The number that m bits from p on make. -/
def acc (s : ByteArray) (p : Nat) : Nat → Nat
  | 0 => 0
  | m + 1 => 2 * acc s p m + bit8 s (p + m)
def five (s : ByteArray) (t : Nat) : Nat := acc s (5 * t) 5
def alpha : List UInt8 := [65, 66, 67, 68, 69, 70, 71, 72, 73, 74, 75, 76, 77, 78, 79, 80, 81, 82, 83, 84, 85, 86, 87, 88, 89, 90, 50, 51, 52, 53, 54, 55]
def let5 (v : Nat) : UInt8 := alpha.getD v 0
def b32L (s : ByteArray) (n : Nat) : List UInt8 := (List.range n).map fun t => let5 (five s t)
def nFives (n : Nat) : Nat := (8 * n + 4) / 5
def b32B (s : ByteArray) : ByteArray := if s.size ≤ 4000 then ⟨(b32L s (nFives s.size)).toArray⟩ else ⟨#[]⟩

theorem bit8_lt (s : ByteArray) (k : Nat) : bit8 s k < 2 := by unfold bit8; omega
theorem acc_lt (s : ByteArray) (p m : Nat) : acc s p m < 2 ^ m := by
  induction m with
  | zero => simp [acc]
  | succ m ih =>
    have := bit8_lt s (p + m)
    rw [acc, Nat.pow_succ]; omega
theorem acc_add (s : ByteArray) (p a r : Nat) : acc s p (a + r) = acc s p a * 2 ^ r + acc s (p + a) r := by
  induction r with
  | zero => simp [acc]
  | succ r ih =>
    rw [← Nat.add_assoc, acc, ih, acc, Nat.pow_succ, Nat.add_assoc]
    rw [Nat.mul_add, ← Nat.mul_assoc, Nat.mul_comm 2 (acc s p a), Nat.mul_assoc, Nat.mul_comm 2 (2 ^ r)]
    omega
theorem at8_end (s : ByteArray) (k : Nat) (h : s.size ≤ k) : at8 s k = 0 := by
  unfold at8
  rw [List.getD, List.getElem?_eq_none (by rw [len_data]; exact h)]
  rfl
theorem bit8_end (s : ByteArray) (k : Nat) (h : 8 * s.size ≤ k) : bit8 s k = 0 := by
  unfold bit8
  rw [at8_end s (k / 8) (by omega)]
  simp
theorem acc_end (s : ByteArray) (p r : Nat) (h : 8 * s.size ≤ p) : acc s p r = 0 := by
  induction r with
  | zero => rfl
  | succ r ih => rw [acc, ih, bit8_end s (p + r) (by omega)]
theorem bit8_at (s : ByteArray) (i j : Nat) (hj : j < 8) : bit8 s (8 * i + j) = (at8 s i).toNat / 2 ^ (7 - j) % 2 := by
  unfold bit8
  rw [show (8 * i + j) / 8 = i from by omega, show (8 * i + j) % 8 = j from by omega]
theorem byte_sum : ∀ b, b < 256 → 2 * (2 * (2 * (2 * (2 * (2 * (2 * (2 * 0 + b / 2 ^ 7 % 2) + b / 2 ^ 6 % 2) + b / 2 ^ 5 % 2) + b / 2 ^ 4 % 2) + b / 2 ^ 3 % 2) + b / 2 ^ 2 % 2) + b / 2 ^ 1 % 2) + b / 2 ^ 0 % 2 = b := by decide +kernel
theorem acc_byte8 (s : ByteArray) (i : Nat) : acc s (8 * i) 8 = (at8 s i).toNat := by
  have hb := byte_sum (at8 s i).toNat (at8 s i).toNat_lt
  have e : ∀ j, acc s (8 * i) (j + 1) = 2 * acc s (8 * i) j + bit8 s (8 * i + j) := fun j => rfl
  rw [e 7, e 6, e 5, e 4, e 3, e 2, e 1, e 0, bit8_at s i 0 (by omega), bit8_at s i 1 (by omega), bit8_at s i 2 (by omega), bit8_at s i 3 (by omega), bit8_at s i 4 (by omega), bit8_at s i 5 (by omega), bit8_at s i 6 (by omega), bit8_at s i 7 (by omega)]
  exact hb
theorem acc_byte (s : ByteArray) (p m i : Nat) (h : p + m = 8 * i) : acc s p (m + 8) = acc s p m * 256 + (at8 s i).toNat := by
  rw [acc_add, h, acc_byte8]
theorem acc_hi (s : ByteArray) (p a r : Nat) : acc s p (a + r) / 2 ^ r = acc s p a := by
  have h := acc_lt s (p + a) r
  rw [acc_add, Nat.mul_comm, Nat.mul_add_div (Nat.two_pow_pos r), Nat.div_eq_of_lt h, Nat.add_zero]
theorem acc_lo (s : ByteArray) (p a r : Nat) : acc s p (a + r) % 2 ^ r = acc s (p + a) r := by
  have h := acc_lt s (p + a) r
  rw [acc_add, Nat.mul_comm, Nat.mul_add_mod, Nat.mod_eq_of_lt h]
theorem b32L_succ (s : ByteArray) (t : Nat) : b32L s (t + 1) = b32L s t ++ [let5 (five s t)] := by
  unfold b32L
  rw [List.range_succ, List.map_append]; rfl
theorem b32L_len (s : ByteArray) (t : Nat) : (b32L s t).length = t := by simp [b32L]
theorem five_lt (s : ByteArray) (t : Nat) : five s t < 32 := acc_lt s (5 * t) 5
theorem b32_big {s : ByteArray} (h : 4000 < s.size) : b32B s = ⟨#[]⟩ := by unfold b32B; rw [if_neg (by omega)]
theorem b32_small {s : ByteArray} (h : s.size ≤ 4000) : b32B s = ⟨(b32L s (nFives s.size)).toArray⟩ := by unfold b32B; rw [if_pos h]
theorem alpha_at (v : Nat) (h : v < (⟨#[65, 66, 67, 68, 69, 70, 71, 72, 73, 74, 75, 76, 77, 78, 79, 80, 81, 82, 83, 84, 85, 86, 87, 88, 89, 90, 50, 51, 52, 53, 54, 55]⟩ : ByteArray).size) : (⟨#[65, 66, 67, 68, 69, 70, 71, 72, 73, 74, 75, 76, 77, 78, 79, 80, 81, 82, 83, 84, 85, 86, 87, 88, 89, 90, 50, 51, 52, 53, 54, 55]⟩ : ByteArray)[v] = let5 v := by
  rw [at8_eq _ v h]; rfl
end Go.Proofs.YtenjbgpndkodmacGreatDoor
namespace Go.Proofs.YtenjbgpndkodmacGreatDoor
set_option linter.unusedVariables false
set_option linter.unusedSimpArgs false
open Go.RowKit

theorem bit_eq (b e : Nat) (hb : b < 256) : bits .and .i64 ((b : Int) / 2 ^ e) 1 = ((b / 2 ^ e % 2 : Nat) : Int) := by
  have h1 : (b : Int) / 2 ^ e = ((b / 2 ^ e : Nat) : Int) := by simp
  rw [h1]
  have h2 : b / 2 ^ e ≤ b := Nat.div_le_self _ _
  generalize b / 2 ^ e = x at *
  have := and_i64 1 (by decide) (x : Int) (by omega) (by omega)
  simpa using this
set_option maxRecDepth 100000 in
set_option maxHeartbeats 1000000 in
theorem l1bit_any (s : ByteArray) (n : Int) (k : Nat) (w : World) (hn : n = (k : Int)) (hs : s.size ≤ maxLen) (h1 : k ≤ 1000000) :
    Calls Tryz.prog 155 #[.string s, .int .i64 n] w fun e w' => e = .returned (.int .i64 (bit8 s k : Nat)) ∧ w' = w := by
  unfold maxLen at hs
  obtain ⟨q, r, hk, hr⟩ : ∃ q r : Nat, k = 8 * q + r ∧ r < 8 := ⟨k / 8, k % 8, by omega, by omega⟩
  have h0 : 0 ≤ n := by omega
  have h2 : n ≤ 1000000 := by omega
  have e1 : n / 8 = (q : Int) := by omega
  have e2 : n % 8 = (r : Int) := by omega
  have HK : Hid (k = 8 * q + r) := hk
  clear hk hn
  by_cases hq : q < s.size
  · have hlo := u8_lo s[q]
    have hhi := u8_hi s[q]
    have hfin : Hid ((bit8 s k : Int) = bits .and .i64 ((s[q].toNat : Int) / 2 ^ (7 - r)) 1) := by
      show _ = _
      rw [bit_eq _ _ (s[q].toNat_lt), at8_eq s q hq, HK.out, bit8_at s q r hr]
    go_enter Tryz.func155, Tryz.ntmps155
    go_wp2
    go_ret
    exact ⟨ret_int hfin.out, rfl⟩
  · have hfin : Hid ((bit8 s k : Nat) = 0) := bit8_end s k (by rw [HK.out]; omega)
    go_enter Tryz.func155, Tryz.ntmps155
    go_wp2
    go_ret
    exact ⟨ret_int (by rw [hfin.out]; rfl), rfl⟩
set_option maxRecDepth 100000 in
set_option maxHeartbeats 2000000 in
theorem sBase32_any (s : ByteArray) (w : World) (hs : s.size ≤ maxLen) :
    Calls Tryz.prog 125 #[.string s] w fun e w' => e = .returned (.string (b32B s)) ∧ Below w.heap.size w w' := by
  have hs' := hs
  unfold maxLen at hs'
  by_cases hbig : (4000 : Int) < (s.size : Int)
  · rw [b32_big (by omega)]
    go_enter Tryz.func125, Tryz.ntmps125
    go_wp2
    go_ret
    exact ⟨rfl, Below.refl _ _⟩
  · have hfin : Hid (b32B s = ⟨(b32L s (nFives s.size)).toArray⟩) := b32_small (by omega)
    go_enter Tryz.func125, Tryz.ntmps125
    go_wp2
    go_loopw [3, 4] (fun v i wr => ∃ t : Nat, t ≤ nFives s.size ∧ i = .int .i64 (5 * (t : Int)) ∧ Buf w wr v (b32L s t)) (fun _ i _ => 8 * s.size + 5 - (intOf i).toNat)
    case atStart => exact ⟨0, Nat.zero_le _, rfl, Buf.start w⟩
    case round =>
      obtain ⟨t, ht, rfl, hbuf⟩ := hrel
      have hlen : (b32L s t).length ≤ 6401 := by rw [b32L_len]; unfold nFives at ht; omega
      by_cases hlt : t < nFives s.size
      · have hlt2 : 5 * (t : Int) < 8 * (s.size : Int) := by unfold nFives at hlt; omega
        have hb5 : 5 * t ≤ 40000 := by omega
        go_wp2_with fail
        go_loop [5, 6] (fun v j => ∃ m : Nat, m ≤ 5 ∧ j = .int .i64 (m : Int) ∧ v = .int .i64 (acc s (5 * t) m : Nat)) (fun _ j => 5 - (intOf j).toNat)
        case atStart => exact ⟨0, by omega, rfl, rfl⟩
        case round =>
          obtain ⟨m, hm, rfl, rfl⟩ := hrel
          have hal := acc_lt s (5 * t) m
          have hp : 2 ^ m ≤ 32 := Nat.pow_le_pow_right (by decide) hm (n := 2)
          have hbl := bit8_lt s (5 * t + m)
          by_cases hlt5 : m < 5
          · have hstep : Hid (acc s (5 * t) (m + 1) = 2 * acc s (5 * t) m + bit8 s (5 * t + m)) := rfl
            have hc := fun (w : World) => l1bit_any s (5 * (t : Int) + (m : Int)) (5 * t + m) w (by omega) hs (by omega)
            generalize acc s (5 * t) m = A at *
            generalize bit8 s (5 * t + m) = bt at *
            have Hc := hc
            have HC : Hid _ := Hc
            clear hc Hc
            go_wp2_with (go_at_call 155; refine (HC.out _).mono ?_; rintro e w' ⟨rfl, rfl⟩)
            go_round
            case rel => exact ⟨m + 1, by omega, by go_num, congrArg (Value.int .i64) (by rw [hstep.out]; omega)⟩
            case measure => simp [intOf]; omega
          · obtain rfl : m = 5 := by omega
            have hf5 := five_lt s t
            have hl : five s t < (⟨#[65, 66, 67, 68, 69, 70, 71, 72, 73, 74, 75, 76, 77, 78, 79, 80, 81, 82, 83, 84, 85, 86, 87, 88, 89, 90, 50, 51, 52, 53, 54, 55]⟩ : ByteArray).size := hf5
            have hy : (((⟨#[65, 66, 67, 68, 69, 70, 71, 72, 73, 74, 75, 76, 77, 78, 79, 80, 81, 82, 83, 84, 85, 86, 87, 88, 89, 90, 50, 51, 52, 53, 54, 55]⟩ : ByteArray)[five s t]).toNat : Int) = ((let5 (five s t)).toNat : Int) := by rw [alpha_at _ hl]
            have hR : Hid (b32L s (t + 1) = b32L s t ++ [let5 (five s t)]) := b32L_succ s t
            have hacc : acc s (5 * t) 5 = five s t := rfl
            rw [hacc] at *
            have HY : Hid _ := hy
            clear hy hacc
            generalize five s t = f at *
            go_wp2_with (at_builtin; refine wp_app rfl (.tmp 29) (.tmp 32) rfl _ _ rfl hbuf _ (let5 f) HY.out rfl (by omega) ?_; intro v2 W2 hbuf2)
            go_roundw
            case rel => exact ⟨t + 1, by omega, by go_num, by rw [hR.out]; exact hbuf2⟩
            case measure => simp [intOf]; omega
      · obtain rfl : t = nFives s.size := by omega
        have hge : 8 * (s.size : Int) ≤ 5 * (nFives s.size : Int) := by unfold nFives; omega
        have kb := hbuf.text
        generalize nFives s.size = N at *
        go_wp2
        go_ret
        exact ⟨ret_str hfin.out, hbuf.below⟩
end Go.Proofs.YtenjbgpndkodmacGreatDoor
namespace Go.Proofs.YtenjbgpndkodmacGreatDoor
set_option linter.unusedVariables false
set_option linter.unusedSimpArgs false
open Go.RowKit

theorem mask_eq (A r : Nat) (hA : A < 2 ^ 30) (hr : r ≤ 30) : bits .and .i64 (A : Int) (2 ^ r - 1) = ((A % 2 ^ r : Nat) : Int) := by
  have h : (2 : Int) ^ 40 = 1099511627776 := by decide
  have h2 : (2 : Nat) ^ 30 = 1073741824 := by decide
  have := and_i64 r (by omega) (A : Int) (by omega) (by rw [h]; rw [h2] at hA; omega)
  rw [this]; simp
theorem wrap_pow (r : Nat) (hr : r ≤ 30) : wrap64 (wrap64 (2 ^ r) - 1) = 2 ^ r - 1 := by
  have h1 : (2 : Nat) ^ r ≤ 2 ^ 30 := Nat.pow_le_pow_right (by decide) hr
  have h2 : (2 : Nat) ^ 30 = 1073741824 := by decide
  have h3 : 0 < (2 : Nat) ^ r := Nat.two_pow_pos r
  have h4 : (2 : Int) ^ r = ((2 ^ r : Nat) : Int) := by simp
  rw [h4]
  generalize 2 ^ r = x at *
  unfold wrap64
  omega
theorem div_cast (A r : Nat) : (A : Int) / 2 ^ r = ((A / 2 ^ r : Nat) : Int) := by simp
end Go.Proofs.YtenjbgpndkodmacGreatDoor
namespace Go.Proofs.YtenjbgpndkodmacGreatDoor
set_option linter.unusedVariables false
set_option linter.unusedSimpArgs false
open Go.RowKit
def val5 (n : Int) : Int := if 65 ≤ n ∧ n ≤ 90 then n - 65 else if 50 ≤ n ∧ n ≤ 55 then n - 24 else -1
def isL (b : UInt8) : Bool := decide (0 ≤ val5 (b.toNat : Int))
def lv5 (b : UInt8) : Nat := (val5 (b.toNat : Int)).toNat
theorem val5_lt (n : Int) : val5 n < 32 := by unfold val5; split <;> (try split) <;> omega
theorem v5_lt (b : UInt8) : lv5 b < 32 := by have := val5_lt (b.toNat : Int); unfold lv5; omega
theorem v5_val {b : UInt8} (h : isL b = true) : val5 (b.toNat : Int) = (lv5 b : Int) := by
  unfold isL at h; rw [decide_eq_true_iff] at h; unfold lv5; omega
def bit5 (s : ByteArray) (k : Nat) : Nat := lv5 (at8 s (k / 5)) / 2 ^ (4 - k % 5) % 2
def accL (s : ByteArray) (p : Nat) : Nat → Nat
  | 0 => 0
  | m + 1 => 2 * accL s p m + bit5 s (p + m)
theorem bit5_lt (s : ByteArray) (k : Nat) : bit5 s k < 2 := by unfold bit5; omega
theorem accL_lt (s : ByteArray) (p m : Nat) : accL s p m < 2 ^ m := by
  induction m with
  | zero => simp [accL]
  | succ m ih =>
    have := bit5_lt s (p + m)
    rw [accL, Nat.pow_succ]; omega
theorem accL_add (s : ByteArray) (p a r : Nat) : accL s p (a + r) = accL s p a * 2 ^ r + accL s (p + a) r := by
  induction r with
  | zero => simp [accL]
  | succ r ih =>
    rw [← Nat.add_assoc, accL, ih, accL, Nat.pow_succ, Nat.add_assoc]
    rw [Nat.mul_add, ← Nat.mul_assoc, Nat.mul_comm 2 (accL s p a), Nat.mul_assoc, Nat.mul_comm 2 (2 ^ r)]
    omega
theorem accL_hi (s : ByteArray) (p a r : Nat) : accL s p (a + r) / 2 ^ r = accL s p a := by
  have h := accL_lt s (p + a) r
  rw [accL_add, Nat.mul_comm, Nat.mul_add_div (Nat.two_pow_pos r), Nat.div_eq_of_lt h, Nat.add_zero]
theorem accL_lo (s : ByteArray) (p a r : Nat) : accL s p (a + r) % 2 ^ r = accL s (p + a) r := by
  have h := accL_lt s (p + a) r
  rw [accL_add, Nat.mul_comm, Nat.mul_add_mod, Nat.mod_eq_of_lt h]
theorem five_sum : ∀ b, b < 32 → 2 * (2 * (2 * (2 * (2 * 0 + b / 2 ^ 4 % 2) + b / 2 ^ 3 % 2) + b / 2 ^ 2 % 2) + b / 2 ^ 1 % 2) + b / 2 ^ 0 % 2 = b := by decide +kernel
theorem bit5_at (s : ByteArray) (i j : Nat) (hj : j < 5) : bit5 s (5 * i + j) = lv5 (at8 s i) / 2 ^ (4 - j) % 2 := by
  unfold bit5
  rw [show (5 * i + j) / 5 = i from by omega, show (5 * i + j) % 5 = j from by omega]
theorem accL_five (s : ByteArray) (i : Nat) : accL s (5 * i) 5 = lv5 (at8 s i) := by
  have hb := five_sum (lv5 (at8 s i)) (v5_lt _)
  have e : ∀ j, accL s (5 * i) (j + 1) = 2 * accL s (5 * i) j + bit5 s (5 * i + j) := fun j => rfl
  rw [e 4, e 3, e 2, e 1, e 0, bit5_at s i 0 (by omega), bit5_at s i 1 (by omega), bit5_at s i 2 (by omega), bit5_at s i 3 (by omega), bit5_at s i 4 (by omega)]
  exact hb
theorem accL_letter (s : ByteArray) (p m i : Nat) (h : p + m = 5 * i) : accL s p (m + 5) = accL s p m * 32 + lv5 (at8 s i) := by
  rw [accL_add, h, accL_five]
def out5 (s : ByteArray) (m : Nat) : List UInt8 := (List.range m).map fun j => UInt8.ofNat (accL s (8 * j) 8)
theorem out5_succ (s : ByteArray) (m : Nat) : out5 s (m + 1) = out5 s m ++ [UInt8.ofNat (accL s (8 * m) 8)] := by
  unfold out5
  rw [List.range_succ, List.map_append]; rfl
theorem out5_len (s : ByteArray) (m : Nat) : (out5 s m).length = m := by simp [out5]
def rbOk (s : ByteArray) : Bool := decide (s.size ≤ 6400) && s.data.toList.all isL && decide (5 * s.size % 8 < 5) && decide (accL s (8 * (5 * s.size / 8)) (5 * s.size % 8) = 0)
def rbB (s : ByteArray) : ByteArray := if rbOk s = true then ⟨(out5 s (5 * s.size / 8)).toArray⟩ else ⟨#[]⟩
theorem rb_no {s : ByteArray} (h : rbOk s = false) : rbB s = ⟨#[]⟩ := by unfold rbB; rw [if_neg (by rw [h]; decide)]
theorem rb_big {s : ByteArray} (h : 6400 < s.size) : rbOk s = false := by unfold rbOk; simp; intro h'; omega
theorem rb_letter {s : ByteArray} {k : Nat} (hk : k < s.size) (h : isL (at8 s k) = false) : rbOk s = false := by
  have : s.data.toList.all isL = false := by
    rw [List.all_eq_false]
    have hl : k < s.data.toList.length := by rw [len_data]; exact hk
    refine ⟨s.data.toList[k], List.getElem_mem hl, ?_⟩
    have e : at8 s k = s.data.toList[k] := by simp [at8, List.getD, List.getElem?_eq_getElem hl]
    rw [← e, h]; decide
  unfold rbOk; rw [this]; simp
theorem rb_held {s : ByteArray} (h : 5 ≤ 5 * s.size % 8) : rbOk s = false := by unfold rbOk; rw [decide_eq_false (p := 5 * s.size % 8 < 5) (by omega)]; simp
theorem rb_bits {s : ByteArray} (h : accL s (8 * (5 * s.size / 8)) (5 * s.size % 8) ≠ 0) : rbOk s = false := by unfold rbOk; rw [decide_eq_false h]; simp
theorem rb_yes {s : ByteArray} (h1 : s.size ≤ 6400) (h2 : ∀ j, j < s.size → isL (at8 s j) = true) (h3 : 5 * s.size % 8 < 5) (h4 : accL s (8 * (5 * s.size / 8)) (5 * s.size % 8) = 0) : rbOk s = true := by
  have : s.data.toList.all isL = true := by
    rw [List.all_eq_true]
    intro x hx
    obtain ⟨k, hk, rfl⟩ := List.mem_iff_getElem.1 hx
    have e : at8 s k = s.data.toList[k] := by simp [at8, List.getD, List.getElem?_eq_getElem hk]
    rw [← e]; exact h2 k (by rw [len_data] at hk; exact hk)
  unfold rbOk; simp [this, h1, h3, h4]
end Go.Proofs.YtenjbgpndkodmacGreatDoor
namespace Go.Proofs.YtenjbgpndkodmacGreatDoor
set_option linter.unusedVariables false
set_option linter.unusedSimpArgs false
open Go.RowKit

def plainP (n : Int) : Bool := n == 9 || (decide (32 ≤ n) && n != 127)
def plain8 (b : UInt8) : Bool := plainP (b.toNat : Int)
def quoP (n : Int) : Bool := n == 34 || n == 92
def quo8 (b : UInt8) : Bool := quoP (b.toNat : Int)
def esc8 (b : UInt8) : List UInt8 := if quo8 b = true then [92, b] else [b]
def escL (l : List UInt8) : List UInt8 := l.flatMap esc8
def quoL (l : List UInt8) : List UInt8 := 34 :: escL l ++ [34]
def quoOk (s : ByteArray) : Bool := decide (s.size ≤ 4000) && s.data.toList.all plain8
def quoB (s : ByteArray) : ByteArray := if quoOk s = true then ⟨(quoL s.data.toList).toArray⟩ else ⟨#[]⟩

theorem plainP_yes {n : Int} (h : (n == 9) = true) : plainP n = true := by simp [plainP, h]
theorem plainP_lo {n : Int} (h : (n == 9) = false) (h2 : ¬ 32 ≤ n) : plainP n = false := by simp [plainP, h, h2]
theorem plainP_hi {n : Int} (h : (n == 9) = false) (h2 : 32 ≤ n) : plainP n = (n != 127) := by simp [plainP, h, h2]
theorem quoP_yes {n : Int} (h : (n == 34) = true) : quoP n = true := by simp [quoP, h]
theorem quoP_no {n : Int} (h : (n == 34) = false) : quoP n = (n == 92) := by simp [quoP, h]

theorem escL_snoc (l : List UInt8) (b : UInt8) : escL (l ++ [b]) = escL l ++ esc8 b := by simp [escL]
theorem escL_len (l : List UInt8) : (escL l).length ≤ 2 * l.length := by
  induction l with
  | nil => simp [escL]
  | cons a l ih =>
    have : escL (a :: l) = esc8 a ++ escL l := by simp [escL]
    rw [this, List.length_append, List.length_cons]
    have : (esc8 a).length ≤ 2 := by unfold esc8; split <;> simp
    omega
theorem quo_big {s : ByteArray} (h : 4000 < s.size) : quoB s = ⟨#[]⟩ ∧ quoOk s = false := by
  have : quoOk s = false := by unfold quoOk; simp [show ¬ s.size ≤ 4000 by omega]
  exact ⟨by simp [quoB, this], this⟩
theorem quo_no {s : ByteArray} {k : Nat} (hk : k < s.size) (h : plain8 (at8 s k) = false) : quoB s = ⟨#[]⟩ ∧ quoOk s = false := by
  have : quoOk s = false := by
    unfold quoOk
    have hl : k < s.data.toList.length := by rw [len_data]; exact hk
    have : s.data.toList.all plain8 = false := by
      rw [List.all_eq_false]
      refine ⟨s.data.toList[k], List.getElem_mem hl, ?_⟩
      simp [at8, List.getD, List.getElem?_eq_getElem hl] at h
      simp [h]
    simp [this]
  exact ⟨by simp [quoB, this], this⟩
theorem quo_yes {s : ByteArray} (h1 : s.size ≤ 4000) (h : ∀ j, j < s.size → plain8 (at8 s j) = true) : quoB s = ⟨(quoL s.data.toList).toArray⟩ ∧ quoOk s = true := by
  have : quoOk s = true := by
    unfold quoOk
    have : s.data.toList.all plain8 = true := by
      rw [List.all_eq_true]
      intro x hx
      obtain ⟨j, hj, rfl⟩ := List.mem_iff_getElem.1 hx
      have := h j (by rw [← len_data]; exact hj)
      simpa [at8, List.getD, List.getElem?_eq_getElem hj] using this
    simp [this, h1]
  exact ⟨by simp [quoB, this], this⟩
theorem take_succ8 (s : ByteArray) (k : Nat) (hk : k < s.size) : s.data.toList.take (k + 1) = s.data.toList.take k ++ [at8 s k] := by
  have hl : k < s.data.toList.length := by rw [len_data]; exact hk
  rw [List.take_succ_eq_append_getElem hl]
  simp [at8, List.getD, List.getElem?_eq_getElem hl]
end Go.Proofs.YtenjbgpndkodmacGreatDoor
namespace Go.Proofs.YtenjbgpndkodmacGreatDoor
set_option linter.unusedVariables false
set_option linter.unusedSimpArgs false
open Go.RowKit

theorem ret_sb {s t : ByteArray} {a b : Bool} (h : t = s) (h' : b = a) : Ending.returned (.tuple #[.string s, .bool a]) = .returned (.tuple #[.string t, .bool b]) := by rw [h, h']
end Go.Proofs.YtenjbgpndkodmacGreatDoor
namespace Go.Proofs.YtenjbgpndkodmacGreatDoor
set_option linter.unusedVariables false
set_option linter.unusedSimpArgs false
open Go.RowKit
theorem val5_up {n : Int} (h1 : 65 ≤ n) (h2 : n ≤ 90) : val5 n = n - 65 := by unfold val5; rw [if_pos ⟨h1, h2⟩]
theorem val5_dig {n : Int} (h1 : 50 ≤ n) (h2 : n ≤ 55) : val5 n = n - 24 := by unfold val5; rw [if_neg (by omega), if_pos ⟨h1, h2⟩]
theorem val5_no {n : Int} (h1 : ¬ (65 ≤ n ∧ n ≤ 90)) (h2 : ¬ (50 ≤ n ∧ n ≤ 55)) : val5 n = -1 := by unfold val5; rw [if_neg h1, if_neg h2]
set_option maxHeartbeats 1000000 in
theorem fiveValue_any (n : Int) (w : World) (h0 : 0 ≤ n) (h255 : n ≤ 255) :
    Calls Tryz.prog 137 #[.int .u8 n] w fun e w' => e = .returned (.int .i64 (val5 n)) ∧ w' = w := by
  by_cases a1 : 65 ≤ n
  · by_cases a2 : n ≤ 90
    · rw [val5_up a1 a2]
      go_enter Tryz.func137, Tryz.ntmps137
      go_wp2
      go_ret
      exact ⟨rfl, rfl⟩
    · rw [val5_no (by omega) (by omega)]
      have b1 : 50 ≤ n := by omega
      have b2 : ¬ n ≤ 55 := by omega
      go_enter Tryz.func137, Tryz.ntmps137
      go_wp2
      go_ret
      exact ⟨rfl, rfl⟩
  · by_cases b1 : 50 ≤ n
    · by_cases b2 : n ≤ 55
      · rw [val5_dig b1 b2]
        have e1 : n - 50 + 26 = n - 24 := by omega
        go_enter Tryz.func137, Tryz.ntmps137
        go_wp2
        go_ret
        exact ⟨ret_int (by omega), rfl⟩
      · rw [val5_no (by omega) (by omega)]
        go_enter Tryz.func137, Tryz.ntmps137
        go_wp2
        go_ret
        exact ⟨rfl, rfl⟩
    · rw [val5_no (by omega) (by omega)]
      go_enter Tryz.func137, Tryz.ntmps137
      go_wp2
      go_ret
      exact ⟨rfl, rfl⟩
set_option maxHeartbeats 2000000 in
theorem ReadBase32_any (s : ByteArray) (w : World) (hs : s.size ≤ maxLen) :
    Calls Tryz.prog 104 #[.string s] w fun e w' => e = .returned (.tuple #[.string (rbB s), .bool (rbOk s)]) ∧ Below w.heap.size w w' := by
  have hs' := hs
  unfold maxLen at hs'
  by_cases hbig : (6400 : Int) < (s.size : Int)
  · have hr := rb_big (s := s) (by omega)
    rw [rb_no hr, hr]
    go_enter Tryz.func104, Tryz.ntmps104
    go_wp2
    go_ret2
    exact ⟨rfl, Below.refl _ _⟩
  · go_enter Tryz.func104, Tryz.ntmps104
    go_wp2
    go_loopw [4, 5, 6, 14] (fun v b hv i wr => ∃ (k m h : Nat), k ≤ s.size ∧ i = .int .i64 (k : Int) ∧ 8 * m + h = 5 * k ∧ h ≤ 7 ∧ b = .int .i64 (accL s (8 * m) h : Nat) ∧ hv = .int .i64 (h : Int) ∧ (∀ j, j < k → isL (at8 s j) = true) ∧ Buf w wr v (out5 s m)) (fun _ _ _ i _ => s.size - (intOf i).toNat)
    case atStart => exact ⟨0, 0, 0, Nat.zero_le _, rfl, rfl, by omega, rfl, rfl, fun j hj => by omega, Buf.start w⟩
    case round =>
      obtain ⟨k, m, h, hk, rfl, hmh, hh, rfl, rfl, hall, hbuf⟩ := hrel
      have HA : Hid (∀ j, j < k → isL (at8 s j) = true) := hall
      have HM : Hid (8 * m + h = 5 * k) := hmh
      clear hall
      by_cases hlt : k < s.size
      · have hlo := u8_lo s[k]
        have hhi := u8_hi s[k]
        have hat := at8_eq s k hlt
        cases hL : isL (at8 s k)
        · have hr := rb_letter hlt hL
          have hv : val5 (s[k].toNat : Int) = -1 := by
            rw [hat]
            unfold isL at hL
            rw [decide_eq_false_iff_not] at hL
            unfold val5 at *
            split at hL
            · omega
            · split at hL
              · omega
              · rename_i h1 h2; rw [if_neg h1, if_neg h2]
          have HR : Hid (rbB s = ⟨#[]⟩ ∧ rbOk s = false) := ⟨rb_no hr, hr⟩
          clear hat hL hr hmh
          go_wp2_with (go_at_call 137; refine (fiveValue_any _ _ hlo hhi).mono ?_; rintro e w' ⟨rfl, rfl⟩)
          go_ret2
          exact ⟨ret_sb HR.out.1 HR.out.2, hbuf.below⟩
        · have hv : val5 (s[k].toNat : Int) = (lv5 (at8 s k) : Int) := by rw [hat]; exact v5_val hL
          have hv32 := v5_lt (at8 s k)
          have hal := accL_lt s (8 * m) h
          have hp : 2 ^ h ≤ 128 := Nat.pow_le_pow_right (by decide) hh (n := 2)
          have hor : bits .or .i64 ((accL s (8 * m) h : Int) * 32) (lv5 (at8 s k) : Int) = ((accL s (8 * m) (h + 5) : Nat) : Int) := by
            rw [or_i64 5 _ _ (by omega) (by omega) (by omega) (by omega) (by omega) (by omega), accL_letter s (8 * m) h k hmh]
            simp
          have HA2 : Hid (∀ j, j < k + 1 → isL (at8 s j) = true) := by
            intro j hj
            rcases Nat.lt_or_ge j k with h' | h'
            · exact HA.out j h'
            · rw [show j = k from by omega]; exact hL
          clear hL hat hmh
          generalize lv5 (at8 s k) = V at *
          by_cases h8 : 3 ≤ h
          · obtain ⟨r, rfl⟩ : ∃ r, h = r + 3 := ⟨h - 3, by omega⟩
            have ea : r + 3 + 5 = 8 + r := by omega
            rw [ea] at hor
            have hal2 := accL_lt s (8 * m) (8 + r)
            have hp2 : 2 ^ (8 + r) ≤ 2 ^ 12 := Nat.pow_le_pow_right (by decide) (by omega)
            have hdiv : (accL s (8 * m) (8 + r) : Int) / 2 ^ r = ((accL s (8 * m) 8 : Nat) : Int) := by rw [div_cast, accL_hi]
            have hB := accL_lt s (8 * m) 8
            have HMk : Hid (bits .and .i64 (accL s (8 * m) (8 + r) : Int) (wrap64 (wrap64 (2 ^ r) - 1)) = ((accL s (8 * (m + 1)) r : Nat) : Int)) := by
              show _ = _
              rw [wrap_pow r (by omega), mask_eq _ _ (by omega) (by omega), accL_lo, Nat.mul_add]
            have hR : Hid (out5 s (m + 1) = out5 s m ++ [UInt8.ofNat (accL s (8 * m) 8)]) := out5_succ s m
            have hlen : (out5 s m).length ≤ 8000 := by rw [out5_len]; have := HM.out; omega
            have hB2 : accL s (8 * m) 8 < 256 := by simpa using hB
            have HY : Hid ((accL s (8 * m) 8 : Int) = ((UInt8.ofNat (accL s (8 * m) 8)).toNat : Int)) := by
              show _ = _
              rw [UInt8.toNat_ofNat']; omega
            clear hB
            generalize accL s (8 * m) 8 = B at *
            generalize accL s (8 * m) (8 + r) = A at *
            have hA : A < 4096 := by omega
            clear hal2 hp2
            go_wp2_with (first | (go_at_call 137; refine (fiveValue_any _ _ hlo hhi).mono ?_; rintro e w' ⟨rfl, rfl⟩) | (at_builtin; refine wp_app rfl _ _ rfl _ _ rfl hbuf _ (UInt8.ofNat B) HY.out rfl (by omega) ?_; intro v2 W2 hbuf2))
            go_roundw
            case rel => exact ⟨k + 1, m + 1, r, by omega, by go_num, by have := HM.out; omega, by omega, congrArg (Value.int .i64) HMk.out, by go_num, HA2.out, by rw [hR.out]; exact hbuf2⟩
            case measure => simp [intOf] <;> omega
          · have h8' : ¬ (8 : Int) ≤ (h : Int) + 5 := by omega
            go_wp2_with (go_at_call 137; refine (fiveValue_any _ _ hlo hhi).mono ?_; rintro e w' ⟨rfl, rfl⟩)
            go_roundw
            case rel => exact ⟨k + 1, m, h + 5, by omega, by go_num, by have := HM.out; omega, by omega, rfl, by go_num, HA2.out, hbuf⟩
            case measure => simp [intOf] <;> omega
      · obtain rfl : k = s.size := by omega
        have em : 5 * s.size / 8 = m := by omega
        have eh : 5 * s.size % 8 = h := by omega
        by_cases h5 : 5 ≤ h
        · have hr := rb_held (s := s) (by omega)
          have HR : Hid (rbB s = ⟨#[]⟩ ∧ rbOk s = false) := ⟨rb_no hr, hr⟩
          have h5' : (5 : Int) ≤ (h : Int) := by omega
          clear hmh hr em eh
          go_wp2
          go_ret2
          exact ⟨ret_sb HR.out.1 HR.out.2, hbuf.below⟩
        · have h5' : ¬ (5 : Int) ≤ (h : Int) := by omega
          by_cases hz : accL s (8 * m) h = 0
          · have hr := rb_yes (s := s) (by omega) HA.out (by omega) (by rw [em, eh]; exact hz)
            have hb : rbB s = ⟨(out5 s m).toArray⟩ := by unfold rbB; rw [if_pos hr, em]
            have HR : Hid (rbB s = ⟨(out5 s m).toArray⟩ ∧ rbOk s = true) := ⟨hb, hr⟩
            rw [hz]
            have kb := hbuf.text
            clear hmh hr em eh hz hb
            go_wp2
            go_ret2
            exact ⟨ret_sb HR.out.1 HR.out.2, hbuf.below⟩
          · have hr := rb_bits (s := s) (by rw [em, eh]; exact hz)
            have HR : Hid (rbB s = ⟨#[]⟩ ∧ rbOk s = false) := ⟨rb_no hr, hr⟩
            have hz' : ((accL s (8 * m) h : Int) != 0) = true := by simp; omega
            clear hmh hr em eh hz
            go_wp2
            go_ret2
            exact ⟨ret_sb HR.out.1 HR.out.2, hbuf.below⟩
end Go.Proofs.YtenjbgpndkodmacGreatDoor
namespace Go.Proofs.YtenjbgpndkodmacGreatDoor
set_option linter.unusedVariables false
set_option linter.unusedSimpArgs false
open Go.RowKit
theorem letters_fin : ∀ v : Fin 32, isL (let5 v.val) = true ∧ lv5 (let5 v.val) = v.val := by decide +kernel
theorem bytes_fin : ∀ b : Fin 256, isL (UInt8.ofNat b.val) = true → let5 (lv5 (UInt8.ofNat b.val)) = UInt8.ofNat b.val := by decide +kernel
theorem let5_v5 {b : UInt8} (h : isL b = true) : let5 (lv5 b) = b := by
  have := bytes_fin ⟨b.toNat, b.toNat_lt⟩
  simp only [UInt8.ofNat_toNat] at this
  exact this h
theorem at8_of (l : List UInt8) (j : Nat) : at8 ⟨l.toArray⟩ j = l.getD j 0 := rfl
theorem out5_at (s : ByteArray) (m j : Nat) (h : j < m) : (out5 s m).getD j 0 = UInt8.ofNat (accL s (8 * j) 8) := by simp [out5, List.getD, h]
theorem b32L_at (s : ByteArray) (n j : Nat) (h : j < n) : (b32L s n).getD j 0 = let5 (five s j) := by simp [b32L, List.getD, h]
theorem accL_bit (s : ByteArray) (p i n : Nat) (h : i < n) : accL s p n / 2 ^ (n - 1 - i) % 2 = bit5 s (p + i) := by
  have e : n = (i + 1) + (n - 1 - i) := by omega
  have := accL_hi s p (i + 1) (n - 1 - i)
  rw [← e] at this
  rw [this, accL]
  have := bit5_lt s (p + i)
  omega
theorem acc_bit (s : ByteArray) (p i n : Nat) (h : i < n) : acc s p n / 2 ^ (n - 1 - i) % 2 = bit8 s (p + i) := by
  have e : n = (i + 1) + (n - 1 - i) := by omega
  have := acc_hi s p (i + 1) (n - 1 - i)
  rw [← e] at this
  rw [this, acc]
  have := bit8_lt s (p + i)
  omega
theorem accL_zero {s : ByteArray} {p n : Nat} (h : accL s p n = 0) (i : Nat) (hi : i < n) : bit5 s (p + i) = 0 := by
  rw [← accL_bit s p i n hi, h]; simp
theorem acc_same {s t : ByteArray} {p n : Nat} (h : ∀ k, k < p + n → bit8 s k = bit5 t k) : acc s p n = accL t p n := by
  induction n with
  | zero => rfl
  | succ n ih => rw [acc, accL, ih (fun k hk => h k (by omega)), h (p + n) (by omega)]
/-- The bits of the text that the letters make. -/
theorem bit8_out (s : ByteArray) (m k : Nat) (h : k < 8 * m) : bit8 ⟨(out5 s m).toArray⟩ k = bit5 s k := by
  obtain ⟨j, i, hk, hi⟩ : ∃ j i, k = 8 * j + i ∧ i < 8 := ⟨k / 8, k % 8, by omega, by omega⟩
  have hj : j < m := by omega
  rw [hk, bit8_at _ j i hi, at8_of, out5_at s m j hj]
  have hlt : accL s (8 * j) 8 < 256 := by simpa using accL_lt s (8 * j) 8
  have e : (UInt8.ofNat (accL s (8 * j) 8)).toNat = accL s (8 * j) 8 := by rw [UInt8.toNat_ofNat']; omega
  rw [e]
  exact accL_bit s (8 * j) i 8 hi
/-- The bits of the letters that a text makes. -/
theorem bit5_b32 (s : ByteArray) (n k : Nat) (h : k < 5 * n) : bit5 ⟨(b32L s n).toArray⟩ k = bit8 s k := by
  obtain ⟨j, i, hk, hi⟩ : ∃ j i, k = 5 * j + i ∧ i < 5 := ⟨k / 5, k % 5, by omega, by omega⟩
  have hj : j < n := by omega
  rw [hk, bit5_at _ j i hi, at8_of, b32L_at s n j hj, (letters_fin ⟨five s j, five_lt s j⟩).2]
  exact acc_bit s (5 * j) i 5 hi
theorem rb_b32 {s : ByteArray} (hs : s.size ≤ 4000) : rbOk (b32B s) = true ∧ rbB (b32B s) = s := by
  rw [b32_small hs]
  have hsz : (ByteArray.mk (b32L s (nFives s.size)).toArray).size = nFives s.size := by show (b32L s (nFives s.size)).toArray.size = _; simp [b32L_len]
  have hb := fun k (h : k < 5 * nFives s.size) => (bit5_b32 s (nFives s.size) k h).symm
  have hat : ∀ j, j < nFives s.size → at8 ⟨(b32L s (nFives s.size)).toArray⟩ j = let5 (five s j) := fun j hj => by rw [at8_of, b32L_at _ _ _ hj]
  generalize ht : ByteArray.mk (b32L s (nFives s.size)).toArray = t at *
  have hn : nFives s.size = (8 * s.size + 4) / 5 := rfl
  have e1 : 5 * t.size / 8 = s.size := by omega
  have e2 : 5 * t.size % 8 = 5 * nFives s.size - 8 * s.size := by omega
  have hok : rbOk t = true := by
    refine rb_yes (by omega) (fun j hj => ?_) (by omega) ?_
    · rw [hat j (by omega)]; exact (letters_fin ⟨five s j, five_lt s j⟩).1
    · rw [e1, e2, ← acc_same (s := s) (fun k hk => hb k (by omega))]
      exact acc_end s _ _ (Nat.le_refl _)
  refine ⟨hok, ?_⟩
  unfold rbB
  rw [if_pos hok, e1]
  apply bytes_ext
  show out5 t s.size = s.data.toList
  apply List.ext_getElem
  · rw [out5_len, len_data]
  · intro j h1 h2
    rw [out5_len] at h1
    have h3 := out5_at t s.size j h1
    have h4 : (out5 t s.size).getD j 0 = (out5 t s.size)[j] := by simp [List.getD, List.getElem?_eq_getElem, out5_len, h1]
    have h5 : s.data.toList[j] = at8 s j := by simp [at8, List.getD, List.getElem?_eq_getElem h2]
    rw [← h4, h3, h5, ← acc_same (s := s) (fun k hk => hb k (by omega)), acc_byte8]
    simp
theorem b32_rb {t : ByteArray} (h : rbOk t = true) : b32B (rbB t) = t := by
  have hr : rbB t = ⟨(out5 t (5 * t.size / 8)).toArray⟩ := by unfold rbB; rw [if_pos h]
  unfold rbOk at h
  simp only [Bool.and_eq_true, decide_eq_true_iff, List.all_eq_true] at h
  obtain ⟨⟨⟨h1, h2⟩, h3⟩, h4⟩ := h
  rw [hr]
  have hsz : (ByteArray.mk (out5 t (5 * t.size / 8)).toArray).size = 5 * t.size / 8 := by show (out5 t (5 * t.size / 8)).toArray.size = _; simp [out5_len]
  have hb1 := fun k (h : k < 8 * (5 * t.size / 8)) => bit8_out t (5 * t.size / 8) k h
  generalize ByteArray.mk (out5 t (5 * t.size / 8)).toArray = r at *
  have hb : ∀ k, k < 5 * t.size → bit8 r k = bit5 t k := by
    intro k hk
    by_cases hk8 : k < 8 * (5 * t.size / 8)
    · exact hb1 k hk8
    · rw [bit8_end r k (by omega)]
      have := accL_zero h4 (k - 8 * (5 * t.size / 8)) (by omega)
      rw [show 8 * (5 * t.size / 8) + (k - 8 * (5 * t.size / 8)) = k from by omega] at this
      rw [this]
  have hn : nFives r.size = t.size := by unfold nFives; omega
  rw [b32_small (by omega), hn]
  apply bytes_ext
  show b32L r t.size = t.data.toList
  apply List.ext_getElem
  · rw [b32L_len, len_data]
  · intro j g1 g2
    rw [b32L_len] at g1
    have g3 := b32L_at r t.size j g1
    have g4 : (b32L r t.size).getD j 0 = (b32L r t.size)[j] := by simp [List.getD, List.getElem?_eq_getElem, b32L_len, g1]
    have g5 : t.data.toList[j] = at8 t j := by simp [at8, List.getD, List.getElem?_eq_getElem g2]
    have g6 : isL (at8 t j) = true := by rw [← g5]; exact h2 _ (List.getElem_mem g2)
    rw [← g4, g3, g5]
    unfold five
    rw [acc_same (t := t) (fun k hk => hb k (by omega)), accL_five, let5_v5 g6]
end Go.Proofs.YtenjbgpndkodmacGreatDoor
namespace Go.Proofs.YtenjbgpndkodmacGreatDoor
set_option linter.unusedVariables false
set_option linter.unusedSimpArgs false
open Go.RowKit
set_option maxHeartbeats 1000000 in
theorem l1five_any (n : Int) (w : World) (h0 : 0 ≤ n) (h255 : n ≤ 255) :
    Calls Tryz.prog 124 #[.int .u8 n] w fun e w' => e = .returned (.int .i64 (val5 n)) ∧ w' = w := by
  by_cases a1 : 65 ≤ n
  · by_cases a2 : n ≤ 90
    · rw [val5_up a1 a2]
      go_enter Tryz.func124, Tryz.ntmps124
      go_wp2
      go_ret
      exact ⟨rfl, rfl⟩
    · rw [val5_no (by omega) (by omega)]
      have b1 : 50 ≤ n := by omega
      have b2 : ¬ n ≤ 55 := by omega
      go_enter Tryz.func124, Tryz.ntmps124
      go_wp2
      go_ret
      exact ⟨rfl, rfl⟩
  · by_cases b1 : 50 ≤ n
    · by_cases b2 : n ≤ 55
      · rw [val5_dig b1 b2]
        have e1 : n - 50 + 26 = n - 24 := by omega
        go_enter Tryz.func124, Tryz.ntmps124
        go_wp2
        go_ret
        exact ⟨ret_int (by omega), rfl⟩
      · rw [val5_no (by omega) (by omega)]
        go_enter Tryz.func124, Tryz.ntmps124
        go_wp2
        go_ret
        exact ⟨rfl, rfl⟩
    · rw [val5_no (by omega) (by omega)]
      go_enter Tryz.func124, Tryz.ntmps124
      go_wp2
      go_ret
      exact ⟨rfl, rfl⟩
theorem row_made {w w' : World} {n : Nat} (h : w'.ownsRow w.heap.size 5 1 (.slice (some ⟨w.heap.size, 0, none⟩) n n) n (List.replicate n (.int .u8 0))) : Row8 w' w.heap.size (List.replicate n 0) := by
  refine ⟨fun j hj => ?_, fun j hj => h.frozenAt j, (h.lt w.heap.size rfl).2⟩
  rw [List.length_replicate] at hj
  have := h.cells (g := w.heap.size) rfl j (.int .u8 0) (by simp [hj])
  rw [Addr.add_lit, Nat.zero_add] at this
  rw [this]; simp [List.getD, hj]
theorem wp_mk {ops : Array Oper} {rest : List Oper} {o : Oper} {a : Act} {Q : Exit → Act → World → Prop} {w : World} (hg : o.guard = none) (l c : Operand) (hop : o.op = Op.makeSlice 56 l c)
    (n : Nat) (L C : Int) (hl : a.eval l = .int .i64 L) (hc : a.eval c = .int .i64 C) (hL : L = (n : Int)) (hC : C = (n : Int)) (hn : n ≤ 1000000)
    (hK : ∀ w', Row8 w' w.heap.size (List.replicate n 0) → Below w.heap.size w w' → wpList Tryz.prog ops Q rest (a.put o.dst (.slice (some ⟨w.heap.size, 0, none⟩) n n)) w') :
    wpList Tryz.prog ops Q (o :: rest) a w := by
  obtain ⟨i0, hi, hz0, hz1, hz2⟩ := info_parts Tryz.infoU8
  refine wpList_make_full w hg l c 56 hop w.heap.size 5 i0 (.int .u8 0) 1 Tryz.underlying56 hi hz0 hz1 .i64 .i64 L C n hl hc hL hC (by rw [hz2]; omega) (by unfold maxLen; omega) (Nat.le_refl _) ?_
  intro w' hown hgr
  refine hK w' (row_made ?_) ⟨hgr.os, hgr.tape, hgr.output, hgr.size, fun k hk => hgr.block k hk (by simp)⟩
  have e : (madeCells (Value.int .u8 0).cells (n * 1)).toList = List.replicate n (.int .u8 0) := by
    rw [Nat.mul_one]; exact toList_madeCells_one _ _
  rw [e] at hown
  exact hown
theorem Row8.drawn {w : World} {b : Nat} {xs : List Int} (h : Row8 w b xs) : Row8 w.drew b xs := ⟨fun j hj => h.cell j hj, fun j hj => h.free j hj, h.lt⟩
theorem Row8.laterB {w w' : World} {b : Nat} {xs : List Int} (h : Row8 w b xs) (hb : Below w.heap.size w w') : Row8 w' b xs :=
  ⟨fun j hj => cell_later hb (h.cell j hj), fun j hj => (hb.frozen (p := ⟨b, j, none⟩) h.lt).trans (h.free j hj), Nat.lt_of_lt_of_le h.lt hb.size⟩
theorem hideB {p : Prop} (h : p) : Hid p := h
def pb (s : ByteArray) (c i : Nat) : Nat := accL s (8 * i) (min (c - 8 * i) 8) * 2 ^ (8 - min (c - 8 * i) 8)
def partL (s : ByteArray) (c m : Nat) : List Int := (List.range m).map fun i => ((pb s c i : Nat) : Int)
theorem partL_len (s : ByteArray) (c m : Nat) : (partL s c m).length = m := by simp [partL]
theorem partL_at {s : ByteArray} {c m i : Nat} (h : i < m) : (partL s c m).getD i 0 = ((pb s c i : Nat) : Int) := by simp [partL, List.getD, h]
theorem pb_lt (s : ByteArray) (c i : Nat) : pb s c i < 256 := by
  unfold pb
  have h := accL_lt s (8 * i) (min (c - 8 * i) 8)
  have e : 2 ^ (min (c - 8 * i) 8) * 2 ^ (8 - min (c - 8 * i) 8) = 256 := by rw [← Nat.pow_add, show min (c - 8 * i) 8 + (8 - min (c - 8 * i) 8) = 8 from by omega]
  rw [← e]
  exact Nat.mul_lt_mul_of_pos_right h (Nat.two_pow_pos _)
theorem pb_other {s : ByteArray} {c i : Nat} (h : i ≠ c / 8) : pb s (c + 1) i = pb s c i := by
  unfold pb
  have : min (c + 1 - 8 * i) 8 = min (c - 8 * i) 8 := by omega
  rw [this]
theorem pb_step (s : ByteArray) (i q : Nat) (hq : q < 8) : pb s (8 * i + q + 1) i = pb s (8 * i + q) i + bit5 s (8 * i + q) * 2 ^ (7 - q) := by
  unfold pb
  rw [show min (8 * i + q + 1 - 8 * i) 8 = q + 1 from by omega, show min (8 * i + q - 8 * i) 8 = q from by omega, accL, show 8 - q = (7 - q) + 1 from by omega, show 8 - (q + 1) = 7 - q from by omega, Nat.pow_succ, Nat.add_mul]
  rw [Nat.mul_comm 2 (accL s (8 * i) q), Nat.mul_assoc, Nat.mul_comm 2 (2 ^ (7 - q))]
theorem part_start (s : ByteArray) (m : Nat) : partL s 0 m = List.replicate m 0 := by
  apply List.ext_getElem
  · simp [partL]
  · intro i h1 h2
    simp [partL, pb, accL]
theorem part_same {s : ByteArray} {c m : Nat} (h : m ≤ c / 8 ∨ bit5 s c = 0) : partL s (c + 1) m = partL s c m := by
  unfold partL
  apply List.map_congr_left
  intro i hi
  rw [List.mem_range] at hi
  by_cases e : i = c / 8
  · rcases h with h | h
    · omega
    · obtain ⟨q, hq, hc⟩ : ∃ q, q < 8 ∧ c = 8 * i + q := ⟨c % 8, by omega, by omega⟩
      rw [hc, pb_step s i q hq, ← hc, h]; simp
  · rw [pb_other e]
theorem part_set {s : ByteArray} {m i q : Nat} (hi : i < m) (hq : q < 8) (hb : bit5 s (8 * i + q) = 1) : partL s (8 * i + q + 1) m = (partL s (8 * i + q) m).set i (((pb s (8 * i + q) i : Nat) : Int) + 2 ^ (7 - q)) := by
  apply List.ext_getElem
  · simp [partL]
  · intro j h1 h2
    simp only [partL, List.getElem_map, List.getElem_range, List.getElem_set]
    by_cases e : i = j
    · subst e
      rw [if_pos rfl, pb_step s i q hq, hb]; simp
    · rw [if_neg e, pb_other (by omega)]
theorem part_end (s : ByteArray) (m c : Nat) (h : 8 * m ≤ c) : strOfNums (partL s c m) = ⟨(out5 s m).toArray⟩ := by
  have : (partL s c m).map (fun z => UInt8.ofNat z.toNat) = out5 s m := by
    unfold partL out5
    rw [List.map_map]
    apply List.map_congr_left
    intro i hi
    rw [List.mem_range] at hi
    show UInt8.ofNat (Int.toNat ((pb s c i : Nat) : Int)) = _
    rw [Int.toNat_natCast]
    unfold pb
    rw [show min (c - 8 * i) 8 = 8 from by omega]
    simp
  unfold strOfNums
  rw [this]
set_option maxHeartbeats 2000000 in
theorem sReadBase32_any (s : ByteArray) (w : World) (hs : s.size ≤ maxLen) :
    Calls Tryz.prog 96 #[.string s] w fun e w' => e = .returned (.tuple #[.string (rbB s), .bool (rbOk s)]) ∧ Below w.heap.size w w' := by
  have hs' := hs
  unfold maxLen at hs'
  by_cases hbig : (6400 : Int) < (s.size : Int)
  · have hr := rb_big (s := s) (by omega)
    rw [rb_no hr, hr]
    go_enter Tryz.func96, Tryz.ntmps96
    go_wp2
    go_ret2
    exact ⟨rfl, Below.refl _ _⟩
  · obtain ⟨m, hm, hm2⟩ : ∃ m : Nat, (s.size : Int) * 5 / 8 = (m : Int) ∧ m = 5 * s.size / 8 := ⟨5 * s.size / 8, by omega, rfl⟩
    have hmb : m ≤ 4000 := by omega
    have HM2 : Hid (m = 5 * s.size / 8) := hm2
    clear hm2
    go_enter Tryz.func96, Tryz.ntmps96
    go_wp2_with (refine wp_mk rfl _ _ rfl m _ _ rfl rfl ?_ ?_ (by omega) ?_; exact hm; exact hm; intro w1 hrow0 hb1; have hrow : Row8 w1 w.heap.size (partL s 0 m) := by rw [part_start s m]; exact hrow0)
    have hrow : Hid (Row8 w1 w.heap.size (partL s 0 m)) := hrow
    clear hrow0 hm
    go_loopw [5] (fun i wr => ∃ k : Nat, k ≤ s.size ∧ i = .int .i64 (k : Int) ∧ (∀ j, j < k → isL (at8 s j) = true) ∧ Row8 wr w.heap.size (partL s (5 * k) m) ∧ Below w.heap.size w wr) (fun i _ => s.size - (intOf i).toNat)
    case atStart => exact ⟨0, Nat.zero_le _, rfl, fun j hj => by omega, hrow.out, hb1⟩
    case round =>
      obtain ⟨k, hk, rfl, hall, hrw, hbw⟩ := hrel
      have HA : Hid (∀ j, j < k → isL (at8 s j) = true) := hall
      clear hall hrow hb1
      by_cases hlt : k < s.size
      · have hlo := u8_lo s[k]
        have hhi := u8_hi s[k]
        have hat := at8_eq s k hlt
        cases hL : isL (at8 s k)
        · have hr := rb_letter hlt hL
          have hv : val5 (s[k].toNat : Int) = -1 := by
            rw [hat]
            unfold isL at hL
            rw [decide_eq_false_iff_not] at hL
            unfold val5 at *
            split at hL
            · omega
            · split at hL
              · omega
              · rename_i h1 h2; rw [if_neg h1, if_neg h2]
          have HR : Hid (rbB s = ⟨#[]⟩ ∧ rbOk s = false) := ⟨rb_no hr, hr⟩
          clear hat hL hr hrw
          go_wp2_with (go_at_call 124; refine (l1five_any _ _ hlo hhi).mono ?_; rintro e w' ⟨rfl, rfl⟩)
          go_ret2
          exact ⟨ret_sb HR.out.1 HR.out.2, hbw⟩
        · have hv : val5 (s[k].toNat : Int) = (lv5 (at8 s k) : Int) := by rw [hat]; exact v5_val hL
          have hv32 := v5_lt (at8 s k)
          have HB : Hid (∀ j, j < 5 → bits .and .i64 ((lv5 (at8 s k) : Int) / 2 ^ (4 - j)) 1 = ((bit5 s (5 * k + j) : Nat) : Int)) := by
            intro j hj
            rw [bit_eq _ _ (by omega), bit5_at s k j hj]
          have HA2 : Hid (∀ j, j < k + 1 → isL (at8 s j) = true) := by
            intro j hj
            rcases Nat.lt_or_ge j k with h' | h'
            · exact HA.out j h'
            · rw [show j = k from by omega]; exact hL
          have hrw0 : Hid (Row8 wr w.heap.size (partL s (5 * k) m)) := hrw
          clear hL hat hrw
          generalize lv5 (at8 s k) = V at *
          go_wp2_with (go_at_call 124; refine (l1five_any _ _ hlo hhi).mono ?_; rintro e w' ⟨rfl, rfl⟩)
          go_loopw [7] (fun jv w2 => ∃ j : Nat, j ≤ 5 ∧ jv = .int .i64 (j : Int) ∧ Row8 w2 w.heap.size (partL s (5 * k + j) m) ∧ Below w.heap.size w w2) (fun jv _ => 5 - (intOf jv).toNat)
          case atStart => exact ⟨0, by omega, rfl, hrw0.out, hbw⟩
          case round =>
            clear hrw0 hbw
            obtain ⟨j, hj, rfl, hrj, hbj⟩ := hrel
            by_cases hj5 : j < 5
            · have hjI : (j : Int) < 5 := by omega
              obtain ⟨i, q, hiq, hq⟩ : ∃ i q : Nat, 5 * k + j = 8 * i + q ∧ q < 8 := ⟨(5 * k + j) / 8, (5 * k + j) % 8, by omega, by omega⟩
              have e1 : (5 * (k : Int) + (j : Int)) / 8 = (i : Int) := by omega
              have e2 : (5 * (k : Int) + (j : Int)) % 8 = (q : Int) := by omega
              have hb := HB.out j hj5
              have HIQ : Hid (5 * k + j = 8 * i + q) := hiq
              have HRJ : Hid (Row8 wr w.heap.size (partL s (5 * k + j) m)) := hrj
              clear hiq
              by_cases him : i < m
              · have himI : (i : Int) < (m : Int) := by omega
                by_cases hb1 : bit5 s (5 * k + j) = 1
                · rw [hb1] at hb
                  have c1 := hrj.cell i (by rw [partL_len]; exact him)
                  have f1 := hrj.free i (by rw [partL_len]; exact him)
                  rw [partL_at him] at c1
                  have hp := pb_lt s (5 * k + j) i
                  have hp2 := pb_lt s (5 * k + j + 1) i
                  have HS : Hid (partL s (5 * k + j + 1) m = (partL s (5 * k + j) m).set i (((pb s (5 * k + j) i : Nat) : Int) + 2 ^ (7 - q))) := by
                    show _ = _
                    rw [HIQ.out]; exact part_set him hq (by rw [← HIQ.out]; exact hb1)
                  rw [HIQ.out, pb_step s i q hq, ← HIQ.out, hb1, Nat.one_mul] at hp2
                  clear hrj hb1
                  generalize pb s (5 * k + j) i = p at *
                  have HP2 : Hid (p + 2 ^ (7 - q) < 256) := hp2
                  clear hp2
                  go_wp2
                  go_region
                  go_wp2
                  have HV : Hid (((p : Int) + 2 ^ (7 - q)) % 256 = (p : Int) + 2 ^ (7 - q)) := by
                    show _ = _
                    have e : (2 : Int) ^ (7 - q) = ((2 ^ (7 - q) : Nat) : Int) := by simp
                    rw [e]
                    have hh := HP2.out
                    generalize 2 ^ (7 - q) = Z at *
                    omega
                  go_round
                  case rel => exact ⟨j + 1, by omega, by go_num, by show Row8 _ _ (partL s (5 * k + j + 1) m); rw [HS.out, HV.out]; exact Row8.drawn (HRJ.out.set i _ (by rw [partL_len]; exact him)), (hbj.setCell (p := ⟨_, i, none⟩) (Nat.le_refl _) _).drew⟩
                  case measure => simp [intOf] <;> omega
                · have hb0 : bit5 s (5 * k + j) = 0 := by have := bit5_lt s (5 * k + j); omega
                  rw [hb0] at hb
                  have HS : Hid (partL s (5 * k + j + 1) m = partL s (5 * k + j) m) := part_same (Or.inr hb0)
                  clear hrj hb1 hb0
                  go_wp2
                  go_round
                  case rel => exact ⟨j + 1, by omega, by go_num, by show Row8 _ _ (partL s (5 * k + j + 1) m); rw [HS.out]; exact HRJ.out, hbj⟩
                  case measure => simp [intOf] <;> omega
              · have himI : ¬ (i : Int) < (m : Int) := by omega
                have HS : Hid (partL s (5 * k + j + 1) m = partL s (5 * k + j) m) := part_same (Or.inl (by have := HIQ.out; omega))
                clear hrj hb
                go_wp2
                go_round
                case rel => exact ⟨j + 1, by omega, by go_num, by show Row8 _ _ (partL s (5 * k + j + 1) m); rw [HS.out]; exact HRJ.out, hbj⟩
                case measure => simp [intOf] <;> omega
            · have hjI : ¬ (j : Int) < 5 := by omega
              obtain rfl : j = 5 := by omega
              have HRJ : Hid (Row8 _ w.heap.size (partL s (5 * k + 5) m)) := hrj
              clear hrj
              go_wp2
              go_round
              case rel => exact ⟨k + 1, by omega, by go_num, HA2.out, HRJ.out, hbj⟩
              case measure => simp [intOf] <;> omega
      · obtain rfl : k = s.size := by omega
        have hrl : ∀ W, Below _ _ W → _ := fun W hW => (Row8.laterB hrw hW).text (P := Tryz.prog) 56 5 9 m m (partL_len s _ m) Tryz.underlying56 Tryz.underlying5 Tryz.underlying9
        have kb := hrw.text (P := Tryz.prog) 56 5 9 m m (partL_len s _ m) Tryz.underlying56 Tryz.underlying5 Tryz.underlying9
        have HM3 := HM2.out
        rw [part_end s m (5 * s.size) (by omega)] at kb hrl
        have hrsz : (ByteArray.mk (out5 s m).toArray).size = m := by show (out5 s m).toArray.size = _; simp [out5_len]
        have mr : (ByteArray.mk (out5 s m).toArray).size ≤ maxLen := by unfold maxLen; omega
        have hAB : (rbOk s = true ∧ rbB s = ⟨(out5 s m).toArray⟩ ∧ b32B ⟨(out5 s m).toArray⟩ = s) ∨ (rbOk s = false ∧ rbB s = ⟨#[]⟩ ∧ b32B ⟨(out5 s m).toArray⟩ ≠ s) := by
          cases hk' : rbOk s
          · right
            refine ⟨rfl, rb_no hk', fun hh => ?_⟩
            have := (rb_b32 (s := ⟨(out5 s m).toArray⟩) (by omega)).1
            rw [hh, hk'] at this
            cases this
          · left
            have hb : rbB s = ⟨(out5 s m).toArray⟩ := by unfold rbB; rw [if_pos hk', ← HM3]
            exact ⟨rfl, hb, by rw [← hb]; exact b32_rb hk'⟩
        clear HM3 hrsz hrw
        generalize ByteArray.mk (out5 s m).toArray = r at *
        have HL := hideB hrl
        clear hrl
        go_wp2_with fail
        refine (sBase32_any r _ mr).mono ?_
        rintro e w5 ⟨rfl, hb5⟩
        have b5 := hbw.trans (hb5.mono hbw.size)
        rcases hAB with ⟨h1, h2, h3⟩ | ⟨h1, h2, h3⟩
        · rw [h3]
          have hnt : (s.toList != s.toList) = false := by simp
          have HR : Hid (rbB s = r ∧ rbOk s = true) := ⟨h2, h1⟩
          have kb5 := HL.out w5 hb5
          clear h1 h2 h3 hb5 kb
          go_wp2
          go_ret2
          exact ⟨ret_sb HR.out.1 HR.out.2, b5⟩
        · have hnt : ((b32B r).toList != s.toList) = true := by
            rw [bne_iff_ne]
            intro hh
            apply h3
            exact eqB_iff.1 (by unfold eqB; rw [hh]; simp)
          have hnt2 : ((b32B r).toList == s.toList) = false := by rw [beq_eq_false_iff_ne]; exact bne_iff_ne.1 hnt
          have HR : Hid (rbB s = ⟨#[]⟩ ∧ rbOk s = false) := ⟨h2, h1⟩
          clear h1 h2 hb5 kb HL hnt
          generalize b32B r = x at *
          cases hq : (x.toList == s.toList)
          · clear hnt2 h3
            go_wp2
            go_ret2
            exact ⟨ret_sb HR.out.1 HR.out.2, b5⟩
          · rw [hq] at hnt2; cases hnt2
end Go.Proofs.YtenjbgpndkodmacGreatDoor
namespace Go.Proofs.YtenjbgpndkodmacGreatDoor
set_option linter.unusedVariables false
set_option linter.unusedSimpArgs false
open Go.RowKit
/-- Does it begin as a label does? -/
def lq (s : ByteArray) : Bool := (s.extract 0 5).toList == [115, 104, 97, 49, 58]
def rlV (s : ByteArray) : Value := if s.size = 37 ∧ lq s = true then .tuple #[.string (rbB (s.extract 5 s.size)), .bool (rbOk (s.extract 5 s.size))] else .tuple #[.string ⟨#[]⟩, .bool false]
theorem hideB2' {p : Prop} (h : p) : Hid p := h
theorem rlV_no {s : ByteArray} (h : s.size ≠ 37 ∨ lq s = false) : rlV s = .tuple #[.string ⟨#[]⟩, .bool false] := by
  unfold rlV
  rw [if_neg]
  rintro ⟨h1, h2⟩
  rcases h with h | h
  · exact h h1
  · rw [h] at h2; cases h2
theorem rlV_yes {s : ByteArray} (h : s.size = 37) (h2 : lq s = true) : rlV s = .tuple #[.string (rbB (s.extract 5 s.size)), .bool (rbOk (s.extract 5 s.size))] := by
  unfold rlV
  rw [if_pos ⟨h, h2⟩]
set_option maxHeartbeats 1000000 in
theorem ReadLabel_any (s : ByteArray) (w : World) (hs : s.size ≤ maxLen) :
    Calls Tryz.prog 79 #[.string s] w fun e w' => e = .returned (rlV s) ∧ Below w.heap.size w w' := by
  have hs' := hs
  unfold maxLen at hs'
  by_cases h37 : s.size = 37
  · have hne : ((s.size : Int) != 37) = false := by rw [bne_eq_false_iff_eq]; omega
    have h1 : 37 ≤ s.size := by omega
    have h2 : s.size ≤ 37 := by omega
    cases h5 : lq s with
    | false =>
      rw [rlV_no (.inr h5)]
      unfold lq at h5
      clear h37
      go_enter Tryz.func79, Tryz.ntmps79
      go_wp2
      go_ret2
      exact ⟨rfl, Below.refl _ _⟩
    | true =>
      have HV := hideB2' (rlV_yes h37 h5)
      unfold lq at h5
      have hx : (s.extract 5 s.size).size ≤ maxLen := by rw [ByteArray.size_extract]; unfold maxLen; omega
      clear h37
      go_enter Tryz.func79, Tryz.ntmps79
      go_wp2_with fail
      refine (ReadBase32_any _ _ hx).mono ?_
      rintro e w1 ⟨rfl, hb1⟩
      go_wp2
      go_ret2
      exact ⟨by rw [HV.out]; rfl, hb1⟩
  · rw [rlV_no (.inl h37)]
    have hne : ((s.size : Int) != 37) = true := by rw [bne_iff_ne]; omega
    go_enter Tryz.func79, Tryz.ntmps79
    go_wp2
    go_ret2
    exact ⟨rfl, Below.refl _ _⟩
set_option maxHeartbeats 1000000 in
theorem sReadLabel_any (s : ByteArray) (w : World) (hs : s.size ≤ maxLen) :
    Calls Tryz.prog 71 #[.string s] w fun e w' => e = .returned (rlV s) ∧ Below w.heap.size w w' := by
  have hs' := hs
  unfold maxLen at hs'
  by_cases h37 : s.size = 37
  · have hne : ((s.size : Int) != 37) = false := by rw [bne_eq_false_iff_eq]; omega
    have h1 : 37 ≤ s.size := by omega
    have h2 : s.size ≤ 37 := by omega
    cases h5 : lq s with
    | false =>
      rw [rlV_no (.inr h5)]
      unfold lq at h5
      clear h37
      go_enter Tryz.func71, Tryz.ntmps71
      go_wp2
      go_ret2
      exact ⟨rfl, Below.refl _ _⟩
    | true =>
      have HV := hideB2' (rlV_yes h37 h5)
      unfold lq at h5
      have hx : (s.extract 5 s.size).size ≤ maxLen := by rw [ByteArray.size_extract]; unfold maxLen; omega
      clear h37
      go_enter Tryz.func71, Tryz.ntmps71
      go_wp2_with fail
      refine (sReadBase32_any _ _ hx).mono ?_
      rintro e w1 ⟨rfl, hb1⟩
      go_wp2
      go_ret2
      exact ⟨by rw [HV.out]; rfl, hb1⟩
  · rw [rlV_no (.inl h37)]
    have hne : ((s.size : Int) != 37) = true := by rw [bne_iff_ne]; omega
    go_enter Tryz.func71, Tryz.ntmps71
    go_wp2
    go_ret2
    exact ⟨rfl, Below.refl _ _⟩
end Go.Proofs.YtenjbgpndkodmacGreatDoor
