/-
  Plain mathematics of chapter 2: what stands where in a date's text. No Go in sight.
-/
import Derived.Test.YtffjpidjhcnnmabDoorMR
namespace Go.Proofs.YtffjpidjhcnnmabDoor
set_option linter.unusedVariables false
set_option linter.unusedSimpArgs false
open Go.RowKit

/-- The day of the week, 0 for Monday. -/
def wdN' (t : Int) : Nat := ((3 + t / 86400) % 7).toNat
theorem wdN'_lt (t : Int) : wdN' t < 7 := by unfold wdN'; omega
theorem app_list (a b : ByteArray) : (a ++ b).data.toList = a.data.toList ++ b.data.toList := by rw [ByteArray.data_append]; simp
def clockL (h i s : Nat) : List UInt8 := digL h 2 ++ [58] ++ digL i 2 ++ [58] ++ digL s 2
theorem clock_list (h i s : Nat) : (clockB h i s).data.toList = clockL h i s := by
  unfold clockB clockL
  simp only [app_list, digB_list]
theorem clockL_len (h i s : Nat) : (clockL h i s).length = 8 := by simp [clockL, digL_length]
theorem clock_pos {c : ByteArray} {h i s : Nat} (hc : c.data.toList = clockL h i s) :
    (c.extract 0 2).data.toList = digL h 2 ∧ (c.extract 3 5).data.toList = digL i 2 ∧ (c.extract 6 8).data.toList = digL s 2 := by
  refine ⟨mid_bytes c [] (digL h 2) ([58] ++ digL i 2 ++ [58] ++ digL s 2) 0 2 ?_ rfl ?_, mid_bytes c (digL h 2 ++ [58]) (digL i 2) ([58] ++ digL s 2) 3 5 ?_ ?_ ?_, mid_bytes c (digL h 2 ++ [58] ++ digL i 2 ++ [58]) (digL s 2) [] 6 8 ?_ ?_ ?_⟩
  all_goals first | (rw [hc]; simp [clockL]) | simp [digL_length]
/-- The parts of a clock, as numbers. -/
theorem clock_nums {c : ByteArray} {h i s : Nat} (hc : c.data.toList = clockL h i s) (hh : h < 100) (hi : i < 100) (hs : s < 100) :
    nval (c.extract 0 2) = h ∧ nval (c.extract 3 5) = i ∧ nval (c.extract 6 8) = s := by
  obtain ⟨a, b, d⟩ := clock_pos hc
  exact ⟨nval_dig a hh, nval_dig b hi, nval_dig d hs⟩
/-! The records' form. -/
theorem warc_list (y m d h i s : Nat) : (warcB y m d h i s).data.toList = digL y 4 ++ [45] ++ digL m 2 ++ [45] ++ digL d 2 ++ [84] ++ clockL h i s ++ [90] := by
  unfold warcB
  simp only [app_list, digB_list, clock_list]
theorem warc_size (y m d h i s : Nat) : (warcB y m d h i s).size = 20 := by
  rw [← len_data, warc_list]; simp [digL_length, clockL_len]
theorem warc_pos (y m d h i s : Nat) : ((warcB y m d h i s).extract 0 4).data.toList = digL y 4 ∧ ((warcB y m d h i s).extract 5 7).data.toList = digL m 2 ∧ ((warcB y m d h i s).extract 8 10).data.toList = digL d 2 ∧ ((warcB y m d h i s).extract 11 19).data.toList = clockL h i s := by
  refine ⟨mid_bytes _ [] (digL y 4) ([45] ++ digL m 2 ++ [45] ++ digL d 2 ++ [84] ++ clockL h i s ++ [90]) 0 4 ?_ rfl ?_, mid_bytes _ (digL y 4 ++ [45]) (digL m 2) ([45] ++ digL d 2 ++ [84] ++ clockL h i s ++ [90]) 5 7 ?_ ?_ ?_,
    mid_bytes _ (digL y 4 ++ [45] ++ digL m 2 ++ [45]) (digL d 2) ([84] ++ clockL h i s ++ [90]) 8 10 ?_ ?_ ?_, mid_bytes _ (digL y 4 ++ [45] ++ digL m 2 ++ [45] ++ digL d 2 ++ [84]) (clockL h i s) [90] 11 19 ?_ ?_ ?_⟩
  all_goals first | (rw [warc_list]; done) | (rw [warc_list]; simp; done) | (simp [digL_length, clockL_len]; done)
/-! The stamp. -/
theorem stamp_list (y m d h i s : Nat) : (stampB y m d h i s).data.toList = digL y 4 ++ digL m 2 ++ digL d 2 ++ digL h 2 ++ digL i 2 ++ digL s 2 := by
  unfold stampB
  simp only [app_list, digB_list]
theorem stamp_size (y m d h i s : Nat) : (stampB y m d h i s).size = 14 := by
  rw [← len_data, stamp_list]; simp [digL_length]
theorem stamp_pos (y m d h i s : Nat) : ((stampB y m d h i s).extract 0 4).data.toList = digL y 4 ∧ ((stampB y m d h i s).extract 4 6).data.toList = digL m 2 ∧ ((stampB y m d h i s).extract 6 8).data.toList = digL d 2 ∧
    ((stampB y m d h i s).extract 8 10).data.toList = digL h 2 ∧ ((stampB y m d h i s).extract 10 12).data.toList = digL i 2 ∧ ((stampB y m d h i s).extract 12 14).data.toList = digL s 2 := by
  refine ⟨mid_bytes _ [] (digL y 4) (digL m 2 ++ digL d 2 ++ digL h 2 ++ digL i 2 ++ digL s 2) 0 4 ?_ rfl ?_, mid_bytes _ (digL y 4) (digL m 2) (digL d 2 ++ digL h 2 ++ digL i 2 ++ digL s 2) 4 6 ?_ ?_ ?_,
    mid_bytes _ (digL y 4 ++ digL m 2) (digL d 2) (digL h 2 ++ digL i 2 ++ digL s 2) 6 8 ?_ ?_ ?_, mid_bytes _ (digL y 4 ++ digL m 2 ++ digL d 2) (digL h 2) (digL i 2 ++ digL s 2) 8 10 ?_ ?_ ?_,
    mid_bytes _ (digL y 4 ++ digL m 2 ++ digL d 2 ++ digL h 2) (digL i 2) (digL s 2) 10 12 ?_ ?_ ?_, mid_bytes _ (digL y 4 ++ digL m 2 ++ digL d 2 ++ digL h 2 ++ digL i 2) (digL s 2) [] 12 14 ?_ ?_ ?_⟩
  all_goals first | (rw [stamp_list]; done) | (rw [stamp_list]; simp; done) | (simp [digL_length]; done)
/-! The three of messages. -/
theorem dayS_list (k : Nat) (h : k < 7) : (dayS k).data.toList = (dayL k).take 3 ∧ ((dayL k).take 3).length = 3 := by
  constructor
  · unfold dayS; rw [extract_list]; rfl
  · rcases seven h with rfl | rfl | rfl | rfl | rfl | rfl | rfl <;> decide
theorem dayB_list (k : Nat) : (dayB k).data.toList = dayL k := rfl
theorem monB_list (k : Nat) : (monB k).data.toList = monL k := rfl
theorem monL_len {k : Nat} (h0 : 1 ≤ k) (h1 : k ≤ 12) : (monL k).length = 3 := by
  rcases twelve h0 h1 with rfl | rfl | rfl | rfl | rfl | rfl | rfl | rfl | rfl | rfl | rfl | rfl <;> decide
theorem http_list (wd y m d h i s : Nat) (hw : wd < 7) : (httpB wd y m d h i s).data.toList = (dayL wd).take 3 ++ [44, 32] ++ digL d 2 ++ [32] ++ monL m ++ [32] ++ digL y 4 ++ [32] ++ clockL h i s ++ [32, 71, 77, 84] := by
  unfold httpB
  simp only [app_list, digB_list, clock_list, monB_list, (dayS_list wd hw).1]
theorem http_size (wd y m d h i s : Nat) (hw : wd < 7) (h0 : 1 ≤ m) (h1 : m ≤ 12) : (httpB wd y m d h i s).size = 29 := by
  rw [← len_data, http_list _ _ _ _ _ _ _ hw]; simp only [List.length_append, digL_length, clockL_len, monL_len h0 h1, (dayS_list wd hw).2]; rfl
theorem http_pos (wd y m d h i s : Nat) (hw : wd < 7) (h0 : 1 ≤ m) (h1 : m ≤ 12) : ((httpB wd y m d h i s).extract 12 16).data.toList = digL y 4 ∧ (httpB wd y m d h i s).extract 8 11 = monB m ∧ ((httpB wd y m d h i s).extract 5 7).data.toList = digL d 2 ∧ ((httpB wd y m d h i s).extract 17 25).data.toList = clockL h i s := by
  have hL := http_list wd y m d h i s hw
  have l1 := (dayS_list wd hw).2
  have l2 := monL_len h0 h1
  refine ⟨mid_bytes _ ((dayL wd).take 3 ++ [44, 32] ++ digL d 2 ++ [32] ++ monL m ++ [32]) (digL y 4) ([32] ++ clockL h i s ++ [32, 71, 77, 84]) 12 16 ?_ ?_ ?_, bytes_ext (mid_bytes _ ((dayL wd).take 3 ++ [44, 32] ++ digL d 2 ++ [32]) (monL m) ([32] ++ digL y 4 ++ [32] ++ clockL h i s ++ [32, 71, 77, 84]) 8 11 ?_ ?_ ?_),
    mid_bytes _ ((dayL wd).take 3 ++ [44, 32]) (digL d 2) ([32] ++ monL m ++ [32] ++ digL y 4 ++ [32] ++ clockL h i s ++ [32, 71, 77, 84]) 5 7 ?_ ?_ ?_, mid_bytes _ ((dayL wd).take 3 ++ [44, 32] ++ digL d 2 ++ [32] ++ monL m ++ [32] ++ digL y 4 ++ [32]) (clockL h i s) [32, 71, 77, 84] 17 25 ?_ ?_ ?_⟩
  all_goals first | (rw [hL]; done) | (rw [hL]; simp; done) | rfl | (simp only [List.length_append, digL_length, clockL_len, l1, l2, List.length_cons, List.length_nil]; done)
/-- A line's day. -/
def bdayL (d : Nat) : List UInt8 := if d < 10 then [32] ++ digL d 1 else digL d 2
theorem bday_list (d : Nat) : (bday d).data.toList = bdayL d := by
  unfold bday bdayL
  split
  · rw [app_list]; rfl
  · rfl
theorem bdayL_len (d : Nat) : (bdayL d).length = 2 := by unfold bdayL; split <;> simp [digL_length]
theorem bday_val (d : Nat) (h : d < 100) : valN (bdayL d) = d := by
  unfold bdayL
  split
  · rename_i h'
    rw [show digL d 1 = [UInt8.ofNat (48 + d / 10 ^ 0 % 10)] from rfl]
    have : ([32] ++ [UInt8.ofNat (48 + d / 10 ^ 0 % 10)] : List UInt8) = [32] ++ [UInt8.ofNat (48 + d)] := by congr 4; omega
    rw [this, valN_snoc, dv_ofNat d h']
    have : valN [32] = 0 := by decide
    omega
  · exact valN_dig d 2 h
theorem bday_numb (d : Nat) : (bdayL d).all numb = true := by
  unfold bdayL
  split
  · rw [List.all_append, digL_numb]; decide
  · exact digL_numb d 2
theorem line_list (wd y m d h i s : Nat) (hw : wd < 7) : (lineB wd y m d h i s).data.toList = (dayL wd).take 3 ++ [32] ++ monL m ++ [32] ++ bdayL d ++ [32] ++ clockL h i s ++ [32] ++ digL y 4 := by
  unfold lineB
  simp only [app_list, digB_list, clock_list, monB_list, bday_list, (dayS_list wd hw).1]
theorem line_size (wd y m d h i s : Nat) (hw : wd < 7) (h0 : 1 ≤ m) (h1 : m ≤ 12) : (lineB wd y m d h i s).size = 24 := by
  rw [← len_data, line_list _ _ _ _ _ _ _ hw]; simp only [List.length_append, digL_length, clockL_len, bdayL_len, monL_len h0 h1, (dayS_list wd hw).2]; rfl
theorem line_pos (wd y m d h i s : Nat) (hw : wd < 7) (h0 : 1 ≤ m) (h1 : m ≤ 12) : ((lineB wd y m d h i s).extract 20 24).data.toList = digL y 4 ∧ (lineB wd y m d h i s).extract 4 7 = monB m ∧ ((lineB wd y m d h i s).extract 8 10).data.toList = bdayL d ∧ ((lineB wd y m d h i s).extract 11 19).data.toList = clockL h i s := by
  have hL := line_list wd y m d h i s hw
  have l1 := (dayS_list wd hw).2
  have l2 := monL_len h0 h1
  refine ⟨mid_bytes _ ((dayL wd).take 3 ++ [32] ++ monL m ++ [32] ++ bdayL d ++ [32] ++ clockL h i s ++ [32]) (digL y 4) [] 20 24 ?_ ?_ ?_, bytes_ext (mid_bytes _ ((dayL wd).take 3 ++ [32]) (monL m) ([32] ++ bdayL d ++ [32] ++ clockL h i s ++ [32] ++ digL y 4) 4 7 ?_ ?_ ?_),
    mid_bytes _ ((dayL wd).take 3 ++ [32] ++ monL m ++ [32]) (bdayL d) ([32] ++ clockL h i s ++ [32] ++ digL y 4) 8 10 ?_ ?_ ?_, mid_bytes _ ((dayL wd).take 3 ++ [32] ++ monL m ++ [32] ++ bdayL d ++ [32]) (clockL h i s) ([32] ++ digL y 4) 11 19 ?_ ?_ ?_⟩
  all_goals first | (rw [hL]; done) | (rw [hL]; simp; done) | rfl | (simp only [List.length_append, digL_length, clockL_len, bdayL_len, l1, l2, List.length_cons, List.length_nil]; done)
def longTail (y m d h i s : Nat) : List UInt8 := [44, 32] ++ digL d 2 ++ [45] ++ monL m ++ [45] ++ digL y 2 ++ [32] ++ clockL h i s ++ [32, 71, 77, 84]
theorem long_list (wd y m d h i s : Nat) : (longB wd y m d h i s).data.toList = dayL wd ++ longTail y m d h i s := by
  unfold longB longTail
  simp only [app_list, digB_list, clock_list, monB_list, dayB_list, List.append_assoc]
theorem longTail_len (y m d h i s : Nat) (h0 : 1 ≤ m) (h1 : m ≤ 12) : (longTail y m d h i s).length = 24 := by
  unfold longTail; simp only [List.length_append, digL_length, clockL_len, monL_len h0 h1]; rfl
theorem long_size (wd y m d h i s : Nat) (h0 : 1 ≤ m) (h1 : m ≤ 12) : (longB wd y m d h i s).size = (dayB wd).size + 24 := by
  rw [← len_data, long_list, List.length_append, longTail_len _ _ _ _ _ _ h0 h1, ← dayB_list, len_data]
/-- Behind the day's name. -/
theorem long_tail {wd y m d h i s q n : Nat} (hq : q = (dayB wd).size) (h0 : 1 ≤ m) (h1 : m ≤ 12) (hn : n = (longB wd y m d h i s).size) : ((longB wd y m d h i s).extract q n).data.toList = longTail y m d h i s := by
  subst hq hn
  refine mid_bytes _ (dayL wd) (longTail y m d h i s) [] _ _ (by rw [long_list]; simp) (by rw [← dayB_list, len_data]) ?_
  rw [long_size _ _ _ _ _ _ _ h0 h1, longTail_len _ _ _ _ _ _ h0 h1]
theorem tail_pos {r : ByteArray} {y m d h i s : Nat} (hr : r.data.toList = longTail y m d h i s) (h0 : 1 ≤ m) (h1 : m ≤ 12) : (r.extract 9 11).data.toList = digL y 2 ∧ r.extract 5 8 = monB m ∧ (r.extract 2 4).data.toList = digL d 2 ∧ (r.extract 12 20).data.toList = clockL h i s := by
  have l2 := monL_len h0 h1
  refine ⟨mid_bytes _ ([44, 32] ++ digL d 2 ++ [45] ++ monL m ++ [45]) (digL y 2) ([32] ++ clockL h i s ++ [32, 71, 77, 84]) 9 11 ?_ ?_ ?_, bytes_ext (mid_bytes _ ([44, 32] ++ digL d 2 ++ [45]) (monL m) ([45] ++ digL y 2 ++ [32] ++ clockL h i s ++ [32, 71, 77, 84]) 5 8 ?_ ?_ ?_),
    mid_bytes _ [44, 32] (digL d 2) ([45] ++ monL m ++ [45] ++ digL y 2 ++ [32] ++ clockL h i s ++ [32, 71, 77, 84]) 2 4 ?_ ?_ ?_, mid_bytes _ ([44, 32] ++ digL d 2 ++ [45] ++ monL m ++ [45] ++ digL y 2 ++ [32]) (clockL h i s) [32, 71, 77, 84] 12 20 ?_ ?_ ?_⟩
  all_goals first | (rw [hr]; simp [longTail]; done) | rfl | (simp only [List.length_append, digL_length, clockL_len, l2, List.length_cons, List.length_nil]; done)
end Go.Proofs.YtffjpidjhcnnmabDoor
