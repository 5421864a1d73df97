/-
  Chapter 7: a path in its one form, on lists. No Go in sight. · The walks over chapter 1: gaps, digits, Trim. · The walks over chapter 1: spec.DecText, ReadDec. · impl.DecText by strconv.Itoa's contract; what it asks of the world comes of the row's listed tables. · Digits in tens by the library's table, and how long they are. · Words of 32 bits, as natural numbers: turned, joined, summed. No Go in sight. · Digests on lists: the eighty words of a block, the rounds, blocks one after the other, the end. No Go in sight. · What all walks share: worlds that stay below, a number within two. · The walks over chapter 3: words. · Chapter 7: addresses, on lists. No Go in sight. · The drawing functions of chapter 7: a path, bent or not. · The drawing functions of chapter 7: an address's text, bent or not. · A row of texts that the call itself makes and appends to, one text at a time. · Contracts of the library's functions at this program, laid off the kit's shelf in plain words. · Contracts of the library's functions at this program, laid off the kit's shelf in plain words.
-/
import Derived.Test.YtmhohponikolfaaGreatDoorJ0
import Derived.Deep.RegionWith
import Derived.Shelf.Strconv.Itoa3
import Derived.Shelf.Lay
import Derived.Lib.LaidTab
import Derived.Lib.AppendIntMem
import Derived.LaidLaws
import Derived.Laws.BitsAllLaws
import Derived.Test.YtmhohponikolfaaGreatDoorProg
import Derived.Deep.QuietTactic
import Derived.BigQuiet
import Derived.Laws.ShiftsVarLaws
import Derived.Deep.DeepCutAuto
import Derived.Shelf.Strings.SplitCore
import Derived.Shelf.Strings.Search3
namespace Go.Proofs.YtmhohponikolfaaGreatDoor
set_option linter.unusedVariables false
set_option linter.unusedSimpArgs false
open Go.RowKit
def opnL : List UInt8 := [45, 46, 95, 126]
/-- A byte that stands for itself everywhere. -/
def opnP (n : Int) : Bool := letP n || digP n || inL opnL n
def opn8 (b : UInt8) : Bool := opnP (b.toNat : Int)
def hexP (b : UInt8) : Bool := decide (0 ≤ hex8 b)
/-- The byte that two digits name. -/
def nam8 (b c : UInt8) : UInt8 := UInt8.ofNat (hex8 b * 16 + hex8 c).toNat
def up8 (b : UInt8) : UInt8 := if 97 ≤ b.toNat ∧ b.toNat ≤ 122 then b - 32 else b
def pctP (b c : UInt8) : List UInt8 := if opn8 (nam8 b c) = true then [nam8 b c] else [37, up8 b, up8 c]
/-- What % stands for, where it may. -/
def evL : List UInt8 → List UInt8
  | [] => []
  | [a] => [a]
  | [a, b] => [a, b]
  | a :: b :: c :: r => if a = 37 ∧ hexP b = true ∧ hexP c = true then pctP b c ++ evL r else a :: evL (b :: c :: r)
theorem evL_hit {b c : UInt8} {r : List UInt8} (hb : hexP b = true) (hc : hexP c = true) : evL (37 :: b :: c :: r) = pctP b c ++ evL r := by
  rw [evL, if_pos ⟨rfl, hb, hc⟩]
theorem evL_miss {a : UInt8} {r : List UInt8} (h : ¬ (a = 37 ∧ ∃ b c q, r = b :: c :: q ∧ hexP b = true ∧ hexP c = true)) : evL (a :: r) = a :: evL r := by
  match r with
  | [] => rfl
  | [b] => rfl
  | b :: c :: q => rw [evL, if_neg (fun hh => h ⟨hh.1, b, c, q, rfl, hh.2.1, hh.2.2⟩)]
theorem pctP_len (b c : UInt8) : (pctP b c).length ≤ 3 := by unfold pctP; split <;> simp
theorem evL_len : ∀ (n : Nat) (l : List UInt8), l.length ≤ n → (evL l).length ≤ l.length
  | _, [], _ => Nat.le_refl _
  | _, [_], _ => Nat.le_refl _
  | _, [_, _], _ => Nat.le_refl _
  | 0, _ :: _ :: _ :: _, h => by simp at h
  | n + 1, a :: b :: c :: r, h => by
    rw [evL]
    split
    · have h1 := pctP_len b c
      have h2 := evL_len n r (by simp at h; omega)
      rw [List.length_append]; simp; omega
    · have h2 := evL_len n (b :: c :: r) (by simp at h ⊢; omega)
      rw [List.length_cons, List.length_cons (a := a)]; omega
/-- Do the bytes from i on begin with a % and two digits? -/
def hexAt (s : ByteArray) (i : Nat) : Bool := decide (i + 3 ≤ s.size) && (at8 s i == 37) && hexP (at8 s (i + 1)) && hexP (at8 s (i + 2))
theorem drop_at8 {s : ByteArray} {i : Nat} (h : i < s.size) : s.data.toList.drop i = at8 s i :: s.data.toList.drop (i + 1) := by
  have hl : i < s.data.toList.length := by rw [len_data]; exact h
  rw [List.drop_eq_getElem_cons hl]
  congr 1
  unfold at8
  rw [List.getD, List.getElem?_eq_getElem hl]; rfl
theorem hexAt_iff {s : ByteArray} {i : Nat} : hexAt s i = true ↔ i + 3 ≤ s.size ∧ at8 s i = 37 ∧ hexP (at8 s (i + 1)) = true ∧ hexP (at8 s (i + 2)) = true := by
  unfold hexAt
  simp [and_assoc]
theorem evL_at {s : ByteArray} {i : Nat} (h : hexAt s i = true) : evL (s.data.toList.drop i) = pctP (at8 s (i + 1)) (at8 s (i + 2)) ++ evL (s.data.toList.drop (i + 3)) := by
  obtain ⟨h1, h2, h3, h4⟩ := hexAt_iff.1 h
  rw [drop_at8 (i := i) (by omega), drop_at8 (i := i + 1) (by omega), drop_at8 (i := i + 1 + 1) (by omega), h2]
  exact evL_hit h3 h4
theorem evL_on {s : ByteArray} {i : Nat} (hi : i < s.size) (h : hexAt s i = false) : evL (s.data.toList.drop i) = at8 s i :: evL (s.data.toList.drop (i + 1)) := by
  rw [drop_at8 hi]
  refine evL_miss ?_
  rintro ⟨h1, b, c, q, hq, hb, hc⟩
  have hlen := congrArg List.length hq
  simp at hlen
  have hsz : i + 3 ≤ s.size := by have := len_data s; simp at this; omega
  rw [drop_at8 (i := i + 1) (by omega), drop_at8 (i := i + 1 + 1) (by omega)] at hq
  injection hq with e1 e2
  injection e2 with e2 _
  rw [← e1] at hb
  rw [← e2] at hc
  rw [hexAt_iff.2 ⟨hsz, h1, hb, hc⟩] at h
  cases h
/-- What the first bytes of s become, and how many they are. -/
def evP (s : ByteArray) : ByteArray := if hexAt s 0 = true then ⟨(pctP (at8 s 1) (at8 s 2)).toArray⟩ else s.extract 0 1
def evN (s : ByteArray) : Nat := if hexAt s 0 = true then 3 else 1
def evB (s : ByteArray) : ByteArray := ⟨(evL s.data.toList).toArray⟩
theorem evB_size (s : ByteArray) : (evB s).size ≤ s.size := by
  have h := evL_len s.data.toList.length s.data.toList (Nat.le_refl _)
  rw [len_data] at h
  show (evL s.data.toList).toArray.size ≤ _
  simpa using h
theorem evN_le {s : ByteArray} (h : 0 < s.size) : evN s ≤ s.size := by
  unfold evN
  split
  · rename_i h1; have := (hexAt_iff.1 h1).1; omega
  · omega
theorem evN_pos (s : ByteArray) : 1 ≤ evN s := by unfold evN; split <;> omega
theorem evP_size (s : ByteArray) : (evP s).size ≤ 3 := by
  unfold evP
  split
  · show (pctP _ _).toArray.size ≤ 3
    simpa using pctP_len _ _
  · rw [ByteArray.size_extract]; omega
theorem evB_step {s : ByteArray} (h : 0 < s.size) : evB s = evP s ++ evB (s.extract (evN s) s.size) := by
  apply bytes_ext
  rw [Go.Joins.data_append]
  show evL s.data.toList = _ ++ evL (s.extract (evN s) s.size).data.toList
  have e : (s.extract (evN s) s.size).data.toList = s.data.toList.drop (evN s) := by
    rw [Lib.extract_data]
    exact List.take_of_length_le (by rw [List.length_drop, len_data]; omega)
  rw [e]
  unfold evP evN
  split
  · rename_i h1
    have := evL_at h1
    rw [List.drop_zero] at this
    exact this
  · rename_i h1
    have h2 := evL_on h (by simpa using h1)
    rw [List.drop_zero] at h2
    rw [h2, Lib.extract_data]
    have := drop_at8 h
    rw [List.drop_zero] at this
    rw [List.drop_zero, this]
    rfl
/-- The pieces that stay. -/
def dd : ByteArray := ⟨#[46, 46]⟩
def d1 : ByteArray := ⟨#[46]⟩
def dotQ (x : ByteArray) : Bool := eqB x d1 || eqB x dd
def keepS (k : List ByteArray) (x : ByteArray) : List ByteArray := if eqB x dd = true then k.dropLast else if eqB x d1 = true then k else k ++ [x]
def keepL (l : List ByteArray) : List ByteArray := l.foldl keepS []
def lastDot (l : List ByteArray) : Bool := match l.getLast? with | some x => dotQ x | none => false
def keptL (l : List ByteArray) : List ByteArray := if lastDot l = true then keepL l ++ [⟨#[]⟩] else keepL l
theorem keepL_snoc (l : List ByteArray) (x : ByteArray) : keepL (l ++ [x]) = keepS (keepL l) x := by simp [keepL]
theorem keepL_take {l : List ByteArray} {k : Nat} (h : k < l.length) : keepL (l.take (k + 1)) = keepS (keepL (l.take k)) l[k] := by
  rw [List.take_succ_eq_append_getElem h, keepL_snoc]
theorem lastDot_take {l : List ByteArray} {k : Nat} (h : k < l.length) : lastDot (l.take (k + 1)) = dotQ l[k] := by
  rw [List.take_succ_eq_append_getElem h]
  unfold lastDot
  rw [List.getLast?_append]
  rfl
theorem keepS_le (k : List ByteArray) (x : ByteArray) : (keepS k x).length ≤ k.length + 1 ∧ sumS (keepS k x) ≤ sumS k + x.size := by
  have hd : sumS k.dropLast ≤ sumS k := by
    rcases List.eq_nil_or_concat k with rfl | ⟨q, y, rfl⟩
    · exact Nat.le_refl _
    · simp [sumS]
  unfold keepS
  split
  · rw [List.length_dropLast]; omega
  · split
    · omega
    · simp [sumS]
theorem keepL_le (l : List ByteArray) : (keepL l).length ≤ l.length ∧ sumS (keepL l) ≤ sumS l := by
  refine snoc_ind (p := fun l => (keepL l).length ≤ l.length ∧ sumS (keepL l) ≤ sumS l) ?_ ?_ l
  · exact ⟨Nat.le_refl _, Nat.le_refl _⟩
  · intro q x ih
    rw [keepL_snoc]
    have h := keepS_le (keepL q) x
    have e : sumS (q ++ [x]) = sumS q + x.size := by simp [sumS]
    rw [List.length_append, List.length_singleton, e]
    omega
/-- A path in its one form. -/
def clnL (l : List ByteArray) : ByteArray := if l = [] then ⟨#[47]⟩ else ⟨(tailS 47 l).toArray⟩
def nof8 (b : UInt8) : Bool := b != 35 && b != 63
def pthQ (p : ByteArray) : Bool := targQ p && (at8 p 0 == 47) && allB nof8 p
def clnB (p : ByteArray) : ByteArray := if pthQ p = true then clnL (keptL (splS 47 (evB (p.extract 1 p.size)))) else ⟨#[]⟩
end Go.Proofs.YtmhohponikolfaaGreatDoor
namespace Go.Proofs.YtmhohponikolfaaGreatDoor
set_option linter.unusedVariables false
set_option linter.unusedSimpArgs false
open Go.RowKit

theorem gapP_yes1 {n : Int} (h : (n == 32) = true) : gapP n = true := by simp [gapP, h]
theorem gapP_no1 {n : Int} (h : (n == 32) = false) : gapP n = (n == 9) := by simp [gapP, h]
theorem digP_no1 {n : Int} (h : ¬ 48 ≤ n) : digP n = false := by simp [digP, h]
theorem digP_yes1 {n : Int} (h : 48 ≤ n) : digP n = decide (n ≤ 57) := by simp [digP, h]

set_option maxHeartbeats 400000 in
theorem gapByte_any (n : Int) (w : World) :
    Calls Tryz.prog 119 #[.int .u8 n] w fun e w' => e = .returned (.bool (gapP n)) ∧ w' = w := by
  cases h : (n == 32)
  · rw [gapP_no1 h]
    go_enter Tryz.func119, Tryz.ntmps119
    go_wp2
    go_ret
    exact ⟨rfl, rfl⟩
  · rw [gapP_yes1 h]
    go_enter Tryz.func119, Tryz.ntmps119
    go_wp2
    go_ret
    exact ⟨rfl, rfl⟩
set_option maxHeartbeats 400000 in
theorem l1white_any (n : Int) (w : World) :
    Calls Tryz.prog 148 #[.int .u8 n] w fun e w' => e = .returned (.bool (gapP n)) ∧ w' = w := by
  cases h : (n == 32)
  · rw [gapP_no1 h]
    go_enter Tryz.func148, Tryz.ntmps148
    go_wp2
    go_ret
    exact ⟨rfl, rfl⟩
  · rw [gapP_yes1 h]
    go_enter Tryz.func148, Tryz.ntmps148
    go_wp2
    go_ret
    exact ⟨rfl, rfl⟩
set_option maxHeartbeats 400000 in
theorem digitByte_any (n : Int) (w : World) :
    Calls Tryz.prog 126 #[.int .u8 n] w fun e w' => e = .returned (.bool (digP n)) ∧ w' = w := by
  by_cases h : 48 ≤ n
  · rw [digP_yes1 h]
    go_enter Tryz.func126, Tryz.ntmps126
    go_wp2
    go_ret
    exact ⟨rfl, rfl⟩
  · rw [digP_no1 h]
    go_enter Tryz.func126, Tryz.ntmps126
    go_wp2
    go_ret
    exact ⟨rfl, rfl⟩
set_option maxHeartbeats 400000 in
theorem l1digit_any (n : Int) (w : World) :
    Calls Tryz.prog 103 #[.int .u8 n] w fun e w' => e = .returned (.bool (digP n)) ∧ w' = w := by
  by_cases h : 48 ≤ n
  · rw [digP_yes1 h]
    go_enter Tryz.func103, Tryz.ntmps103
    go_wp2
    go_ret
    exact ⟨rfl, rfl⟩
  · rw [digP_no1 h]
    go_enter Tryz.func103, Tryz.ntmps103
    go_wp2
    go_ret
    exact ⟨rfl, rfl⟩
set_option maxHeartbeats 1000000 in
theorem Trim_any (s : ByteArray) (w : World) (hs : s.size ≤ maxLen) :
    Calls Tryz.prog 78 #[.string s] w fun e w' => e = .returned (.string (trimB s)) ∧ w' = w := by
  unfold maxLen at hs
  go_enter Tryz.func78, Tryz.ntmps78
  go_wp2
  go_loop [3] (fun i => ∃ k : Nat, k ≤ s.size ∧ i = .int .i64 k ∧ ∀ j, j < k → gap8 (at8 s j) = true) (fun i => s.size - (intOf i).toNat)
  case atStart => exact ⟨0, Nat.zero_le _, rfl, fun j hj => by omega⟩
  case round =>
    obtain ⟨k, hk, rfl, hall⟩ := hrel
    have Hall : Hid (∀ j, j < k → gap8 (at8 s j) = true) := hall
    clear hall
    by_cases hc : k < s.size ∧ gap8 (at8 s k) = true
    · obtain ⟨hlt, hg0⟩ := hc
      have hg : gapP (s[k].toNat : Int) = true := by rw [at8_eq s k hlt]; exact hg0
      have Hg : Hid (gap8 (at8 s k) = true) := hg0
      clear hg0
      go_wp2_with (go_at_call 119; refine (gapByte_any _ _).mono ?_; rintro e w' ⟨rfl, rfl⟩)
      go_round
      case rel => exact ⟨k + 1, by omega, by go_num, all_succ Hall.out Hg.out⟩
      case measure => simp [intOf]; omega
    · have HE : Hid (k = s.size ∨ gap8 (at8 s k) = false) := by
        rcases Nat.lt_or_ge k s.size with h | h
        · right; exact Bool.eq_false_iff.2 (fun hh => hc ⟨h, hh⟩)
        · left; omega
      have hway : (∃ h : k < s.size, gapP (s[k].toNat : Int) = false) ∨ ¬ k < s.size := by
        rcases Nat.lt_or_ge k s.size with h | h
        · left; refine ⟨h, ?_⟩; rw [at8_eq s k h]; exact Bool.eq_false_iff.2 (fun hh => hc ⟨h, hh⟩)
        · right; omega
      clear hc
      rcases hway with ⟨hlt, hg⟩ | hlt
      all_goals
        go_wp2_with (go_at_call 119; refine (gapByte_any _ _).mono ?_; rintro e w' ⟨rfl, rfl⟩)
        try clear hg
        try clear hlt
        go_loop [4] (fun i => ∃ t : Nat, k ≤ t ∧ t ≤ s.size ∧ i = .int .i64 t ∧ ∀ j, t ≤ j → j < s.size → gap8 (at8 s j) = true) (fun i => (intOf i).toNat)
        case atStart => exact ⟨s.size, hk, Nat.le_refl _, rfl, fun j h1 h2 => by omega⟩
        case round =>
          obtain ⟨t, hkt, ht, rfl, hz⟩ := hrel
          have Hz : Hid (∀ j, t ≤ j → j < s.size → gap8 (at8 s j) = true) := hz
          clear hz
          by_cases hc : k < t ∧ gap8 (at8 s (t - 1)) = true
          · obtain ⟨hlt2, hg0⟩ := hc
            obtain ⟨u, rfl⟩ : ∃ u, t = u + 1 := ⟨t - 1, by omega⟩
            have hu : u < s.size := by omega
            have hg2 : gapP (s[u].toNat : Int) = true := by rw [at8_eq s u hu]; exact hg0
            have Hg : Hid (gap8 (at8 s u) = true) := hg0
            clear hg0
            go_wp2_with (go_at_call 119; refine (gapByte_any _ _).mono ?_; rintro e w' ⟨rfl, rfl⟩)
            go_round
            case rel => exact ⟨u, by omega, by omega, by go_num, all_pred Hz.out Hg.out⟩
            case measure => simp [intOf] <;> omega
          · have HF : Hid (t = k ∨ gap8 (at8 s (t - 1)) = false) := by
              rcases Nat.lt_or_ge k t with h | h
              · right; exact Bool.eq_false_iff.2 (fun hh => hc ⟨h, hh⟩)
              · left; omega
            have hfin : Hid (s.extract k t = trimB s) := trim_of s k t Hall.out HE.out hkt ht Hz.out HF.out
            by_cases hlt2 : k < t
            · obtain ⟨u, rfl⟩ : ∃ u, t = u + 1 := ⟨t - 1, by omega⟩
              have hu : u < s.size := by omega
              have hg2 : gapP (s[u].toNat : Int) = false := by
                rw [at8_eq s u hu]; exact Bool.eq_false_iff.2 (fun hh => hc ⟨hlt2, hh⟩)
              clear hc
              go_wp2_with (go_at_call 119; refine (gapByte_any _ _).mono ?_; rintro e w' ⟨rfl, rfl⟩)
              go_ret
              exact ⟨by rw [← hfin.out]; first | rfl | simp, rfl⟩
            · clear hc
              go_wp2_with (go_at_call 119; refine (gapByte_any _ _).mono ?_; rintro e w' ⟨rfl, rfl⟩)
              go_ret
              exact ⟨by rw [← hfin.out]; first | rfl | simp, rfl⟩
set_option maxHeartbeats 1000000 in
theorem sTrim_any (s : ByteArray) (w : World) (hs : s.size ≤ maxLen) :
    Calls Tryz.prog 115 #[.string s] w fun e w' => e = .returned (.string (trimB s)) ∧ w' = w := by
  unfold maxLen at hs
  go_enter Tryz.func115, Tryz.ntmps115
  go_wp2
  go_loop [3] (fun i => ∃ k : Nat, k ≤ s.size ∧ i = .int .i64 k ∧ ∀ j, j < k → gap8 (at8 s j) = true) (fun i => s.size - (intOf i).toNat)
  case atStart => exact ⟨0, Nat.zero_le _, rfl, fun j hj => by omega⟩
  case round =>
    obtain ⟨k, hk, rfl, hall⟩ := hrel
    have Hall : Hid (∀ j, j < k → gap8 (at8 s j) = true) := hall
    clear hall
    by_cases hc : k < s.size ∧ gap8 (at8 s k) = true
    · obtain ⟨hlt, hg0⟩ := hc
      have hg : gapP (s[k].toNat : Int) = true := by rw [at8_eq s k hlt]; exact hg0
      have Hg : Hid (gap8 (at8 s k) = true) := hg0
      clear hg0
      go_wp2_with (go_at_call 148; refine (l1white_any _ _).mono ?_; rintro e w' ⟨rfl, rfl⟩)
      go_round
      case rel => exact ⟨k + 1, by omega, by go_num, all_succ Hall.out Hg.out⟩
      case measure => simp [intOf]; omega
    · have HE : Hid (k = s.size ∨ gap8 (at8 s k) = false) := by
        rcases Nat.lt_or_ge k s.size with h | h
        · right; exact Bool.eq_false_iff.2 (fun hh => hc ⟨h, hh⟩)
        · left; omega
      have hway : (∃ h : k < s.size, gapP (s[k].toNat : Int) = false) ∨ ¬ k < s.size := by
        rcases Nat.lt_or_ge k s.size with h | h
        · left; refine ⟨h, ?_⟩; rw [at8_eq s k h]; exact Bool.eq_false_iff.2 (fun hh => hc ⟨h, hh⟩)
        · right; omega
      clear hc
      rcases hway with ⟨hlt, hg⟩ | hlt
      all_goals
        go_wp2_with (go_at_call 148; refine (l1white_any _ _).mono ?_; rintro e w' ⟨rfl, rfl⟩)
        try clear hg
        try clear hlt
        go_loop [4] (fun i => ∃ t : Nat, k ≤ t ∧ t ≤ s.size ∧ i = .int .i64 t ∧ ∀ j, t ≤ j → j < s.size → gap8 (at8 s j) = true) (fun i => (intOf i).toNat)
        case atStart => exact ⟨s.size, hk, Nat.le_refl _, rfl, fun j h1 h2 => by omega⟩
        case round =>
          obtain ⟨t, hkt, ht, rfl, hz⟩ := hrel
          have Hz : Hid (∀ j, t ≤ j → j < s.size → gap8 (at8 s j) = true) := hz
          clear hz
          by_cases hc : k < t ∧ gap8 (at8 s (t - 1)) = true
          · obtain ⟨hlt2, hg0⟩ := hc
            obtain ⟨u, rfl⟩ : ∃ u, t = u + 1 := ⟨t - 1, by omega⟩
            have hu : u < s.size := by omega
            have hg2 : gapP (s[u].toNat : Int) = true := by rw [at8_eq s u hu]; exact hg0
            have Hg : Hid (gap8 (at8 s u) = true) := hg0
            clear hg0
            go_wp2_with (go_at_call 148; refine (l1white_any _ _).mono ?_; rintro e w' ⟨rfl, rfl⟩)
            go_round
            case rel => exact ⟨u, by omega, by omega, by go_num, all_pred Hz.out Hg.out⟩
            case measure => simp [intOf] <;> omega
          · have HF : Hid (t = k ∨ gap8 (at8 s (t - 1)) = false) := by
              rcases Nat.lt_or_ge k t with h | h
              · right; exact Bool.eq_false_iff.2 (fun hh => hc ⟨h, hh⟩)
              · left; omega
            have hfin : Hid (s.extract k t = trimB s) := trim_of s k t Hall.out HE.out hkt ht Hz.out HF.out
            by_cases hlt2 : k < t
            · obtain ⟨u, rfl⟩ : ∃ u, t = u + 1 := ⟨t - 1, by omega⟩
              have hu : u < s.size := by omega
              have hg2 : gapP (s[u].toNat : Int) = false := by
                rw [at8_eq s u hu]; exact Bool.eq_false_iff.2 (fun hh => hc ⟨hlt2, hh⟩)
              clear hc
              go_wp2_with (go_at_call 148; refine (l1white_any _ _).mono ?_; rintro e w' ⟨rfl, rfl⟩)
              go_ret
              exact ⟨by rw [← hfin.out]; first | rfl | simp, rfl⟩
            · clear hc
              go_wp2_with (go_at_call 148; refine (l1white_any _ _).mono ?_; rintro e w' ⟨rfl, rfl⟩)
              go_ret
              exact ⟨by rw [← hfin.out]; first | rfl | simp, rfl⟩
end Go.Proofs.YtmhohponikolfaaGreatDoor
namespace Go.Proofs.YtmhohponikolfaaGreatDoor
set_option linter.unusedVariables false
set_option linter.unusedSimpArgs false
open Go.RowKit

theorem below_call_alloc {w w1 : World} {o : Obj} (hb : Below w.drew.heap.size w.drew w1) : Below w.heap.size w (w1.alloc o) := by
  have h : Below w.heap.size w w1 := (Below.drew (Below.refl _ w)).trans (hb.mono (by simp))
  exact h.alloc h.size _
theorem below_alloc_call {w w1 : World} {o : Obj} (hb : Below (w.alloc o).drew.heap.size (w.alloc o).drew w1) : Below w.heap.size w w1 :=
  (((Below.refl _ w).alloc (Nat.le_refl _) o).drew).trans (hb.mono (by simp))
/-- One byte's text. -/
theorem conv_one {P : Program} (src e dst : TypeId) (hs : P.underlying src = some (.slice e)) (he : P.underlying e = some (.int .u8)) (hd : P.underlying dst = some .string) (w : World) (b cap : Nat) (x : Int) (hc : w.cell? ⟨b, 0, none⟩ = some (.int .u8 x)) :
    (convert src dst (.slice (some ⟨b, 0, none⟩) 1 cap)).run P w = .ok (.string ⟨#[UInt8.ofNat x.toNat]⟩) w :=
  run_convert_bytes_arg (P := P) w src e hs he b 0 1 cap [x] rfl (fun i hi => by obtain rfl : i = 0 := by omega
                                                                                 exact hc) dst hd
set_option maxHeartbeats 1000000 in
theorem sDecText_nat (u : Nat) (w : World) (hu : u ≤ 999999999999999) :
    Calls Tryz.prog 104 #[.int .i64 (u : Int)] w fun e w' => e = .returned (.string (decB u)) ∧ Below w.heap.size w w' := by
  induction u using Nat.strongRecOn generalizing w with
  | _ u ih =>
    have h1 : ¬ (u : Int) < 0 := by omega
    have h2 : ¬ (999999999999999 : Int) < (u : Int) := by omega
    by_cases h10 : (u : Int) < 10
    · have hfin : Hid (decB u = ⟨#[UInt8.ofNat (48 + u)]⟩) := by
        show decB u = _
        unfold decB
        rw [Lib.decDigits, dif_pos (by omega)]
      have kb := fun (w : World) (b cap : Nat) (x : Int) => conv_one (P := Tryz.prog) 22 5 9 Tryz.underlying22 Tryz.underlying5 Tryz.underlying9 w b cap x
      clear ih
      go_enter Tryz.func104, Tryz.ntmps104
      go_wp2
      go_ret
      exact ⟨ret_str (by rw [hfin.out]; simp), (Below.refl _ _).alloc (Nat.le_refl _) _⟩
    · have kb := fun (w : World) (b cap : Nat) (x : Int) => conv_one (P := Tryz.prog) 22 5 9 Tryz.underlying22 Tryz.underlying5 Tryz.underlying9 w b cap x
      obtain ⟨q, r, hqr, hr, hq⟩ : ∃ q r : Nat, u = 10 * q + r ∧ r < 10 ∧ 1 ≤ q := ⟨u / 10, u % 10, by omega, by omega, by omega⟩
      have Hih : Hid (∀ (w : World), Calls Tryz.prog 104 #[.int .i64 (q : Int)] w fun e w' => e = .returned (.string (decB q)) ∧ Below w.heap.size w w') := fun w => ih q (by omega) w (by omega)
      have e1 : IntKind.i64.wrap ((u : Int) / 10) = (q : Int) := by rw [IntKind.wrap_i64]; omega
      have e2 : ((u : Int)).tmod 10 = (r : Int) := by rw [Int.tmod_eq_emod_of_nonneg (by omega)]; omega
      have e3 : IntKind.i64.wrap (48 + (r : Int)) = 48 + (r : Int) := by rw [IntKind.wrap_i64]; omega
      have e4 : IntKind.u8.wrap (48 + (r : Int)) = 48 + (r : Int) := by rw [IntKind.wrap_u8]; omega
      have HQ : Hid (u = 10 * q + r) := hqr
      have hfin : Hid (decB u = decB q ++ ⟨#[UInt8.ofNat (48 + r)]⟩) := by
        apply bytes_ext
        rw [decB_list, decDigits_step u (by omega), show u / 10 = q from by omega, show u % 10 = r from by omega]
        simp [decB, ByteArray.data_append]
      have hsz : (decB q).size ≤ 15 := decDigits_len q (by omega)
      clear ih hqr
      go_enter Tryz.func104, Tryz.ntmps104
      go_wp2
      go_region_with (go_at_call 104; refine (Hih.out _).mono ?_; rintro e w1 ⟨rfl, hb⟩; obtain ⟨hcc, hff⟩ := bcell hb)
      all_goals (go_wp2; go_ret)
      all_goals refine ⟨ret_str (by rw [hfin.out]; simp), ?_⟩
      · exact below_call_alloc hb
      · exact below_alloc_call hb
      · exact below_alloc_call hb
end Go.Proofs.YtmhohponikolfaaGreatDoor
namespace Go.Proofs
open Go.Shelf
shelf_lay LaysM.n171 Nm 171 at Tryz as Tryz.laysItoa
end Go.Proofs
namespace Go.Proofs.YtmhohponikolfaaGreatDoor
set_option linter.unusedVariables false
set_option linter.unusedSimpArgs false
open Go.RowKit
def decT (n : Int) : ByteArray := if 0 ≤ n ∧ n ≤ 999999999999999 then decB n.toNat else ⟨#[]⟩
theorem below_grow (w : World) (q : Nat) (os : Array Obj) : Below w.heap.size w (Sort.grow (w.drewN q) os) :=
  ⟨rfl, rfl, rfl, by simp [Sort.grow], fun k hk => by simp [Sort.grow, Array.getElem?_append_left, hk]⟩
set_option maxHeartbeats 1000000 in
theorem sDecText_all (n : Int) (w : World) :
    Calls Tryz.prog 104 #[.int .i64 n] w fun e w' => e = .returned (.string (decT n)) ∧ Below w.heap.size w w' := by
  by_cases h : 0 ≤ n ∧ n ≤ 999999999999999
  · obtain ⟨u, rfl⟩ := Int.eq_ofNat_of_zero_le h.1
    have := sDecText_nat u w (by omega)
    unfold decT
    rw [if_pos h]
    exact this
  · have hf : Hid (decT n = ⟨#[]⟩) := by show decT n = _; unfold decT; rw [if_neg h]
    by_cases h0 : n < 0
    · clear h
      go_enter Tryz.func104, Tryz.ntmps104
      go_wp2
      go_ret
      exact ⟨ret_str hf.out, Below.refl _ _⟩
    · have h1 : (999999999999999 : Int) < n := by omega
      clear h
      go_enter Tryz.func104, Tryz.ntmps104
      go_wp2
      go_ret
      exact ⟨ret_str hf.out, Below.refl _ _⟩
set_option maxHeartbeats 1000000 in
theorem DecText_all (n : Int) (w : World) (htab : Lib.TabIs Tryz.prog w "internal/strconv.uint64pow10" .u64 Lib.pow10Tab) :
    Calls Tryz.prog 124 #[.int .i64 n] w fun e w' => e = .returned (.string (decT n)) ∧ Below w.heap.size w w' := by
  by_cases h : 0 ≤ n ∧ n ≤ 999999999999999
  · have hf : Hid (decT n = ⟨(Lib.itoa n).toArray⟩) := by
      show decT n = _
      unfold decT decB Lib.itoa
      rw [if_pos h, if_neg (by omega)]
    have h0 : ¬ n < 0 := by omega
    have h1 : ¬ (999999999999999 : Int) < n := by omega
    have hit := Any.strconv_Itoa Tryz.laysItoa n (by omega) (by omega) w htab
    clear h htab
    go_enter Tryz.func124, Tryz.ntmps124
    go_wp2_with fail
    refine hit.mono ?_
    rintro e w1 ⟨rfl, q, os, rfl⟩
    go_wp2
    go_ret
    exact ⟨ret_str hf.out, below_grow _ _ _⟩
  · have hf : Hid (decT n = ⟨#[]⟩) := by show decT n = _; unfold decT; rw [if_neg h]
    by_cases h0 : n < 0
    · clear h htab
      go_enter Tryz.func124, Tryz.ntmps124
      go_wp2
      go_ret
      exact ⟨ret_str hf.out, Below.refl _ _⟩
    · have h1 : (999999999999999 : Int) < n := by omega
      clear h htab
      go_enter Tryz.func124, Tryz.ntmps124
      go_wp2
      go_ret
      exact ⟨ret_str hf.out, Below.refl _ _⟩
end Go.Proofs.YtmhohponikolfaaGreatDoor
namespace Go.Proofs.YtmhohponikolfaaGreatDoor
set_option linter.unusedVariables false
set_option linter.unusedSimpArgs false
open Go.RowKit
abbrev Tab10 (w : World) : Prop := Lib.TabIs Tryz.prog w "internal/strconv.uint64pow10" .u64 Lib.pow10Tab
theorem decT_size (n : Int) : (decT n).size ≤ 15 := by
  unfold decT
  split
  · rename_i h
    have := decDigits_len n.toNat (by omega)
    show (Lib.decDigits n.toNat).toArray.size ≤ 15
    simpa using this
  · show (0 : Nat) ≤ 15; omega
theorem tab_later {w w' : World} (h : Tab10 w) (hb : Below w.heap.size w w') : Tab10 w' := by
  unfold Tab10 Lib.TabIs World.var? at *
  cases hg : Tryz.prog.globalNamed "internal/strconv.uint64pow10" with
  | none => rw [hg] at h; cases h
  | some g =>
    rw [hg] at h
    simp only [Option.bind_some] at h ⊢
    have hlt : g < w.heap.size := by
      rcases Nat.lt_or_ge g w.heap.size with h1 | h1
      · exact h1
      · rw [Array.getElem?_eq_none h1] at h; cases h
    rw [hb.block g hlt]; exact h
end Go.Proofs.YtmhohponikolfaaGreatDoor
namespace Go.Proofs.YtmhohponikolfaaGreatDoor
set_option linter.unusedVariables false
set_option linter.unusedSimpArgs false
open Go.RowKit

/-- A word turned left by n bits. -/
def rotl (x n : Nat) : Nat := (x * 2 ^ n % 4294967296) ||| (x / 2 ^ (32 - n))
theorem rotl_lt (x n : Nat) (hx : x < 4294967296) : rotl x n < 4294967296 := by
  have h1 : x * 2 ^ n % 4294967296 < 2 ^ 32 := Nat.mod_lt _ (by decide)
  have h2 : x / 2 ^ (32 - n) < 2 ^ 32 := Nat.lt_of_le_of_lt (Nat.div_le_self _ _) (by omega)
  exact Nat.or_lt_two_pow h1 h2
theorem and_lt32 {a b : Nat} (h : b < 4294967296) : a &&& b < 4294967296 := Nat.and_lt_two_pow (n := 32) _ (by omega)
theorem or_lt32 {a b : Nat} (ha : a < 4294967296) (hb : b < 4294967296) : a ||| b < 4294967296 := Nat.or_lt_two_pow (n := 32) (by omega) (by omega)
theorem xor_lt32 {a b : Nat} (ha : a < 4294967296) (hb : b < 4294967296) : a ^^^ b < 4294967296 := Nat.xor_lt_two_pow (n := 32) (by omega) (by omega)

theorem wrap_i64_nat (n : Nat) (h : n < 9223372036854775808) : IntKind.i64.wrap (n : Int) = n := by rw [IntKind.wrap_i64]; omega
theorem ofInt_64 (a : Nat) (ha : a < 9223372036854775808) : (BitVec.ofInt 64 (a : Int)).toNat = a := by
  rw [BitVec.ofInt_natCast, BitVec.toNat_ofNat]; exact Nat.mod_eq_of_lt (by omega)
theorem i64_and_nat (a b : Nat) (ha : a < 9223372036854775808) (hb : b < 9223372036854775808) : bits .and .i64 (a : Int) (b : Int) = ((a &&& b : Nat) : Int) := by
  have hx : a &&& b < 2 ^ 63 := Nat.and_lt_two_pow _ (by omega)
  show IntKind.i64.wrap ((BitVec.ofInt 64 (a : Int) &&& BitVec.ofInt 64 (b : Int)).toNat : Int) = _
  rw [BitVec.toNat_and, ofInt_64 a ha, ofInt_64 b hb, wrap_i64_nat _ (by omega)]
theorem i64_or_nat (a b : Nat) (ha : a < 9223372036854775808) (hb : b < 9223372036854775808) : bits .or .i64 (a : Int) (b : Int) = ((a ||| b : Nat) : Int) := by
  have hx : a ||| b < 2 ^ 63 := Nat.or_lt_two_pow (by omega) (by omega)
  show IntKind.i64.wrap ((BitVec.ofInt 64 (a : Int) ||| BitVec.ofInt 64 (b : Int)).toNat : Int) = _
  rw [BitVec.toNat_or, ofInt_64 a ha, ofInt_64 b hb, wrap_i64_nat _ (by omega)]
theorem i64_xor_nat (a b : Nat) (ha : a < 9223372036854775808) (hb : b < 9223372036854775808) : bits .xor .i64 (a : Int) (b : Int) = ((a ^^^ b : Nat) : Int) := by
  have hx : a ^^^ b < 2 ^ 63 := Nat.xor_lt_two_pow (by omega) (by omega)
  show IntKind.i64.wrap ((BitVec.ofInt 64 (a : Int) ^^^ BitVec.ofInt 64 (b : Int)).toNat : Int) = _
  rw [BitVec.toNat_xor, ofInt_64 a ha, ofInt_64 b hb, wrap_i64_nat _ (by omega)]

theorem mask32 (x : Nat) : x &&& 4294967295 = x % 4294967296 := Nat.and_two_pow_sub_one_eq_mod x 32
theorem mask32_i64 (x : Nat) (hx : x < 9223372036854775808) : bits .and .i64 (x : Int) 4294967295 = ((x % 4294967296 : Nat) : Int) := by
  have := i64_and_nat x 4294967295 hx (by decide)
  rw [mask32] at this
  exact this
theorem pow31 {n : Nat} (h : n ≤ 31) : 2 ^ n ≤ 2147483648 := Nat.pow_le_pow_right (n := 2) (by decide) h
theorem mul_pow_lt {x n : Nat} (hx : x < 4294967296) (h : n ≤ 31) : x * 2 ^ n < 9223372036854775808 := by
  have h1 := pow31 h
  have h2 : x * 2 ^ n ≤ 4294967295 * 2147483648 := Nat.mul_le_mul (by omega) h1
  omega
/-- The turn as it is made on ints of 64 bits. -/
theorem turn_i64 (x n : Nat) (hx : x < 4294967296) (hn : n ≤ 31) :
    bits .and .i64 (bits .or .i64 ((x : Int) * 2 ^ n) ((x : Int) / 2 ^ (32 - n))) 4294967295 = ((rotl x n : Nat) : Int) := by
  have h1 := mul_pow_lt hx hn
  have h2 : x / 2 ^ (32 - n) < 4294967296 := Nat.lt_of_le_of_lt (Nat.div_le_self _ _) hx
  have e1 : (x : Int) * 2 ^ n = ((x * 2 ^ n : Nat) : Int) := by simp
  have e2 : (x : Int) / 2 ^ (32 - n) = ((x / 2 ^ (32 - n) : Nat) : Int) := by simp
  have h3 : x * 2 ^ n ||| x / 2 ^ (32 - n) < 2 ^ 63 := Nat.or_lt_two_pow (by omega) (by omega)
  rw [e1, e2, i64_or_nat _ _ h1 (by omega), mask32_i64 _ (by omega)]
  unfold rotl
  have e3 : (x * 2 ^ n ||| x / 2 ^ (32 - n)) % 2 ^ 32 = (x * 2 ^ n) % 2 ^ 32 ||| (x / 2 ^ (32 - n)) % 2 ^ 32 := Nat.or_mod_two_pow
  rw [show (4294967296 : Nat) = 2 ^ 32 by decide, e3, Nat.mod_eq_of_lt (show x / 2 ^ (32 - n) < 2 ^ 32 by omega)]
/-- The turn as it is made on words. -/
theorem turn_u32 (x n : Nat) (hx : x < 4294967296) :
    bits .or .u32 (((x : Int) * 2 ^ n) % 4294967296) ((x : Int) / 2 ^ (32 - n)) = ((rotl x n : Nat) : Int) := by
  have h2 : x / 2 ^ (32 - n) < 4294967296 := Nat.lt_of_le_of_lt (Nat.div_le_self _ _) hx
  have e1 : ((x : Int) * 2 ^ n) % 4294967296 = ((x * 2 ^ n % 4294967296 : Nat) : Int) := by simp
  have e2 : (x : Int) / 2 ^ (32 - n) = ((x / 2 ^ (32 - n) : Nat) : Int) := by simp
  rw [e1, e2, u32_or_nat _ _ (Nat.mod_lt _ (by decide)) h2]
  rfl
theorem rotl_sum (x n : Nat) (hx : x < 4294967296) (hn : n ≤ 31) : rotl x n = x * 2 ^ n % 4294967296 + x / 2 ^ (32 - n) := by
  unfold rotl
  have hp : 2 ^ n * 2 ^ (32 - n) = 4294967296 := by rw [← Nat.pow_add, show n + (32 - n) = 32 by omega]
  have h1 : x * 2 ^ n % 4294967296 % 2 ^ n = 0 := by
    rw [← hp, Nat.mul_comm x, Nat.mul_mod_mul_left, Nat.mul_mod_right]
  have h2 : x / 2 ^ (32 - n) < 2 ^ n := by
    rw [Nat.div_lt_iff_lt_mul (Nat.two_pow_pos _), hp]; exact hx
  exact nat_join n _ _ h1 h2
/-- What is turned left, and then by what lacks to 32, is as it was. -/
theorem rotl_back (x n : Nat) (hx : x < 4294967296) (hn : n ≤ 31) : rotl (rotl x n) ((32 - n) % 32) = x := by
  by_cases h0 : n = 0
  · subst h0
    have e : ∀ y, y < 4294967296 → rotl y 0 = y := by
      intro y hy
      rw [rotl_sum y 0 hy (by omega)]
      simp
      omega
    rw [e x hx]
    exact e x hx
  · have h32 : (32 - n) % 32 = 32 - n := Nat.mod_eq_of_lt (by omega)
    rw [h32, rotl_sum _ _ (rotl_lt x n hx) (by omega), rotl_sum x n hx hn, show 32 - (32 - n) = n by omega]
    have hp : 2 ^ n * 2 ^ (32 - n) = 4294967296 := by rw [← Nat.pow_add, show n + (32 - n) = 32 by omega]
    have hP : 0 < 2 ^ n := Nat.two_pow_pos _
    have hQ : 0 < 2 ^ (32 - n) := Nat.two_pow_pos _
    generalize 2 ^ n = P at *
    generalize 2 ^ (32 - n) = Q at *
    have hb : x / Q < P := by rw [Nat.div_lt_iff_lt_mul hQ, hp]; exact hx
    have ex : x = Q * (x / Q) + x % Q := (Nat.div_add_mod x Q).symm
    have hr : x % Q < Q := Nat.mod_lt _ hQ
    generalize x / Q = q at *
    generalize x % Q = r at *
    subst ex
    have e1 : (Q * q + r) * P % 4294967296 = r * P := by
      rw [Nat.add_mul, show Q * q * P = q * 4294967296 by rw [← hp, Nat.mul_comm Q q, Nat.mul_assoc, Nat.mul_comm Q P], Nat.mul_add_mod']
      exact Nat.mod_eq_of_lt (by rw [← hp, Nat.mul_comm P Q]; exact (Nat.mul_lt_mul_right hP).2 hr)
    rw [e1]
    have e2 : (r * P + q) / P = r := by rw [Nat.mul_comm, Nat.mul_add_div hP, Nat.div_eq_of_lt hb, Nat.add_zero]
    have e3 : (r * P + q) * Q % 4294967296 = Q * q := by
      rw [Nat.add_mul, show r * P * Q = r * 4294967296 by rw [← hp, Nat.mul_assoc], Nat.mul_add_mod', Nat.mul_comm q Q]
      exact Nat.mod_eq_of_lt (by rw [← hp, Nat.mul_comm P Q]; exact (Nat.mul_lt_mul_left hQ).2 hb)
    rw [e2, e3]

/-- The three mixings. -/
def chs (b c d : Nat) : Nat := (b &&& c) ||| ((b ^^^ 4294967295) &&& d)
def par (b c d : Nat) : Nat := (b ^^^ c) ^^^ d
def maj (b c d : Nat) : Nat := ((b &&& c) ||| (b &&& d)) ||| (c &&& d)
def fOf (t b c d : Nat) : Nat := if t / 20 = 0 then chs b c d else if t / 20 = 2 then maj b c d else par b c d
def kOf (t : Nat) : Nat := if t / 20 = 0 then 1518500249 else if t / 20 = 1 then 1859775393 else if t / 20 = 2 then 2400959708 else 3395469782
theorem fOf_lt (t b c d : Nat) (hb : b < 4294967296) (hc : c < 4294967296) (hd : d < 4294967296) : fOf t b c d < 4294967296 := by
  unfold fOf chs maj par
  split
  · exact or_lt32 (and_lt32 hc) (and_lt32 hd)
  · split
    · exact or_lt32 (or_lt32 (and_lt32 hc) (and_lt32 hd)) (and_lt32 hd)
    · exact xor_lt32 (xor_lt32 hb hc) hd
theorem kOf_lt (t : Nat) : kOf t < 4294967296 := by
  unfold kOf
  split
  · decide
  · split
    · decide
    · split <;> decide
end Go.Proofs.YtmhohponikolfaaGreatDoor
namespace Go.Proofs.YtmhohponikolfaaGreatDoor
set_option linter.unusedVariables false
set_option linter.unusedSimpArgs false
open Go.RowKit

def byteAt (l : List UInt8) (k : Nat) : Nat := (l.getD k 0).toNat
theorem byteAt_lt (l : List UInt8) (k : Nat) : byteAt l k < 256 := (l.getD k 0).toNat_lt
/-- The first m bytes of word q, the highest first. -/
def beP (l : List UInt8) (q : Nat) : Nat → Nat
  | 0 => 0
  | m + 1 => beP l q m * 256 + byteAt l (4 * q + m)
def be4 (l : List UInt8) (q : Nat) : Nat := beP l q 4
theorem beP_lt (l : List UInt8) (q m : Nat) : beP l q m < 256 ^ m := by
  induction m with
  | zero => simp [beP]
  | succ m ih =>
    have := byteAt_lt l (4 * q + m)
    rw [beP, Nat.pow_succ]; omega
theorem be4_lt (l : List UInt8) (q : Nat) : be4 l q < 4294967296 := beP_lt l q 4

theorem map_range_set {α : Type} (n k : Nat) (f g : Nat → α) (v : α) (hk : g k = v) (ho : ∀ j, j ≠ k → g j = f j) : (List.range n).map g = ((List.range n).map f).set k v := by
  apply List.ext_getElem?
  intro j
  by_cases hj : j < n
  · by_cases e : j = k
    · subst e
      rw [List.getElem?_set_self (by simp [hj])]
      simp [hj, hk]
    · rw [List.getElem?_set_ne (Ne.symm e)]
      simp [hj, ho j e]
  · have h1 : ((List.range n).map g)[j]? = none := List.getElem?_eq_none (by simp; omega)
    have h2 : (((List.range n).map f).set k v)[j]? = none := List.getElem?_eq_none (by simp; omega)
    rw [h1, h2]
theorem map_range_getD {α : Type} (n k : Nat) (f : Nat → α) (z : α) (hk : k < n) : ((List.range n).map f).getD k z = f k := by
  simp [List.getD, hk]

/-- The eighty cells while the block's bytes go in, i of them so far. -/
def inRow (l : List UInt8) (i : Nat) : List Nat := (List.range 80).map fun q => beP l q (min 4 (i - 4 * q))
theorem inRow_len (l : List UInt8) (i : Nat) : (inRow l i).length = 80 := by simp [inRow]
theorem inRow_zero (l : List UInt8) : inRow l 0 = List.replicate 80 0 := by
  unfold inRow
  have : (fun q => beP l q (min 4 (0 - 4 * q))) = fun _ => 0 := by funext q; simp [beP]
  rw [this, List.map_const']
  simp
theorem inRow_at (l : List UInt8) (i : Nat) (hi : i < 64) : (inRow l i).getD (i / 4) 0 = beP l (i / 4) (i % 4) := by
  unfold inRow
  rw [map_range_getD 80 (i / 4) _ 0 (by omega), show min 4 (i - 4 * (i / 4)) = i % 4 by omega]
theorem inRow_succ (l : List UInt8) (i : Nat) (hi : i < 64) : inRow l (i + 1) = (inRow l i).set (i / 4) (beP l (i / 4) (i % 4) * 256 + byteAt l i) := by
  unfold inRow
  refine map_range_set 80 (i / 4) _ _ _ ?_ ?_
  · show beP l (i / 4) (min 4 (i + 1 - 4 * (i / 4))) = _
    rw [show min 4 (i + 1 - 4 * (i / 4)) = i % 4 + 1 by omega, beP, show 4 * (i / 4) + i % 4 = i by omega]
  · intro j hj
    show beP l j (min 4 (i + 1 - 4 * j)) = beP l j (min 4 (i - 4 * j))
    rw [show min 4 (i + 1 - 4 * j) = min 4 (i - 4 * j) by omega]

/-- Word t, given those ahead. -/
def nxt (l : List UInt8) (t : Nat) (L : List Nat) : Nat := if t < 16 then be4 l t else rotl (((L.getD (t - 3) 0 ^^^ L.getD (t - 8) 0) ^^^ L.getD (t - 14) 0) ^^^ L.getD (t - 16) 0) 1
def schL (l : List UInt8) : Nat → List Nat
  | 0 => []
  | t + 1 => schL l t ++ [nxt l t (schL l t)]
theorem schL_len (l : List UInt8) (t : Nat) : (schL l t).length = t := by
  induction t with
  | zero => rfl
  | succ t ih => rw [schL, List.length_append, ih]; rfl
theorem getD_lt {L : List Nat} {B : Nat} (hB : 0 < B) (h : ∀ x ∈ L, x < B) (j : Nat) : L.getD j 0 < B := by
  rcases Nat.lt_or_ge j L.length with hj | hj
  · rw [List.getD, List.getElem?_eq_getElem hj]
    exact h _ (List.getElem_mem hj)
  · rw [List.getD, List.getElem?_eq_none hj]
    exact hB
theorem nxt_lt (l : List UInt8) (t : Nat) (L : List Nat) (h : ∀ x ∈ L, x < 4294967296) : nxt l t L < 4294967296 := by
  unfold nxt
  split
  · exact be4_lt l t
  · have g := getD_lt (by decide) h
    exact rotl_lt _ _ (xor_lt32 (xor_lt32 (xor_lt32 (g _) (g _)) (g _)) (g _))
theorem schL_lt (l : List UInt8) (t : Nat) : ∀ x ∈ schL l t, x < 4294967296 := by
  induction t with
  | zero => intro x hx; cases hx
  | succ t ih =>
    intro x hx
    rw [schL, List.mem_append] at hx
    rcases hx with hx | hx
    · exact ih x hx
    · rw [List.mem_singleton] at hx; rw [hx]; exact nxt_lt l t _ ih
theorem schL_get (l : List UInt8) (t j : Nat) (h : j < t) : (schL l t).getD j 0 = nxt l j (schL l j) := by
  induction t with
  | zero => omega
  | succ t ih =>
    rw [schL]
    by_cases e : j < t
    · rw [List.getD, List.getElem?_append_left (by rw [schL_len]; exact e), ← List.getD, ih e]
    · obtain rfl : j = t := by omega
      rw [List.getD, List.getElem?_append_right (by rw [schL_len]; exact Nat.le_refl _), schL_len, Nat.sub_self]
      rfl
/-- The cells while the words are made, t of them so far. -/
def fillR (L : List Nat) (n : Nat) : List Nat := L ++ List.replicate (n - L.length) 0
theorem fillR_len (L : List Nat) (n : Nat) (h : L.length ≤ n) : (fillR L n).length = n := by simp [fillR]; omega
theorem fillR_set (L : List Nat) (n v : Nat) (h : L.length < n) : fillR (L ++ [v]) n = (fillR L n).set L.length v := by
  unfold fillR
  rw [List.set_append_right _ _ (Nat.le_refl _), Nat.sub_self, List.length_append, show n - L.length = (n - (L.length + 1)) + 1 by omega, List.replicate_succ]
  simp
theorem fillR_at (L : List Nat) (n j : Nat) (h : j < L.length) : (fillR L n).getD j 0 = L.getD j 0 := by
  unfold fillR
  rw [List.getD, List.getElem?_append_left h, List.getD]
theorem fillR_lt {L : List Nat} {n : Nat} (h : ∀ x ∈ L, x < 4294967296) : ∀ x ∈ fillR L n, x < 4294967296 := by
  intro x hx
  rw [fillR, List.mem_append] at hx
  rcases hx with hx | hx
  · exact h x hx
  · have := List.eq_of_mem_replicate hx; omega
theorem fillR_full (L : List Nat) : fillR L L.length = L := by simp [fillR]
theorem fillR_nil (n : Nat) : fillR [] n = List.replicate n 0 := by simp [fillR]
theorem inRow_full (l : List UInt8) : inRow l 64 = fillR (schL l 16) 80 := by
  apply List.ext_getElem?
  intro j
  unfold inRow fillR
  rw [schL_len]
  by_cases h80 : j < 80
  · have e1 : ((List.range 80).map fun q => beP l q (min 4 (64 - 4 * q)))[j]? = some (beP l j (min 4 (64 - 4 * j))) := by simp [h80]
    rw [e1]
    by_cases h16 : j < 16
    · rw [List.getElem?_append_left (by rw [schL_len]; exact h16)]
      have h := schL_get l 16 j h16
      have hl : j < (schL l 16).length := by rw [schL_len]; exact h16
      rw [List.getD, List.getElem?_eq_getElem hl, Option.getD_some] at h
      rw [List.getElem?_eq_getElem hl, h]
      unfold nxt be4
      rw [if_pos h16, show min 4 (64 - 4 * j) = 4 by omega]
    · rw [List.getElem?_append_right (by rw [schL_len]; omega), schL_len, List.getElem?_replicate, if_pos (by omega), show min 4 (64 - 4 * j) = 0 by omega]
      rfl
  · rw [List.getElem?_eq_none (by simp; omega), List.getElem?_eq_none (by rw [List.length_append, schL_len, List.length_replicate]; omega)]

/-- The five words on their way. -/
structure St where
  a : Nat
  b : Nat
  c : Nat
  d : Nat
  e : Nat
def St.ok (s : St) : Prop := s.a < 4294967296 ∧ s.b < 4294967296 ∧ s.c < 4294967296 ∧ s.d < 4294967296 ∧ s.e < 4294967296
def rnd (W : List Nat) (t : Nat) (s : St) : St := ⟨(rotl s.a 5 + fOf t s.b s.c s.d + s.e + W.getD t 0 + kOf t) % 4294967296, s.a, rotl s.b 30, s.c, s.d⟩
def rnds (W : List Nat) (s : St) : Nat → St
  | 0 => s
  | t + 1 => rnd W t (rnds W s t)
theorem rnd_ok {W : List Nat} {t : Nat} {s : St} (h : s.ok) : (rnd W t s).ok := by
  obtain ⟨h1, h2, h3, h4, h5⟩ := h
  exact ⟨Nat.mod_lt _ (by decide), h1, rotl_lt _ _ h2, h3, h4⟩
theorem rnds_ok {W : List Nat} {s : St} (h : s.ok) (t : Nat) : (rnds W s t).ok := by
  induction t with
  | zero => exact h
  | succ t ih => exact rnd_ok ih
def stOf (h : List Nat) : St := ⟨h.getD 0 0, h.getD 1 0, h.getD 2 0, h.getD 3 0, h.getD 4 0⟩
/-- Five words. -/
def Five (h : List Nat) : Prop := h.length = 5 ∧ ∀ x ∈ h, x < 4294967296
theorem Five.ok {h : List Nat} (f : Five h) : (stOf h).ok := by
  have g := getD_lt (B := 4294967296) (by decide) f.2
  exact ⟨g 0, g 1, g 2, g 3, g 4⟩
theorem Five.mk5 {h : List Nat} (f : Five h) : ∃ a b c d e : Nat, h = [a, b, c, d, e] ∧ a < 4294967296 ∧ b < 4294967296 ∧ c < 4294967296 ∧ d < 4294967296 ∧ e < 4294967296 := by
  obtain ⟨hl, hx⟩ := f
  match h, hl with
  | [a, b, c, d, e], _ => exact ⟨a, b, c, d, e, rfl, hx a (by simp), hx b (by simp), hx c (by simp), hx d (by simp), hx e (by simp)⟩
def sumUp (h : List Nat) (s : St) : List Nat := [(h.getD 0 0 + s.a) % 4294967296, (h.getD 1 0 + s.b) % 4294967296, (h.getD 2 0 + s.c) % 4294967296, (h.getD 3 0 + s.d) % 4294967296, (h.getD 4 0 + s.e) % 4294967296]
/-- A block mixed into five words. -/
def comp (h : List Nat) (l : List UInt8) : List Nat := sumUp h (rnds (schL l 80) (stOf h) 80)
theorem sumUp_five (h : List Nat) (s : St) : Five (sumUp h s) := by
  refine ⟨rfl, ?_⟩
  intro x hx
  simp only [sumUp, List.mem_cons, List.not_mem_nil, or_false] at hx
  rcases hx with rfl | rfl | rfl | rfl | rfl <;> exact Nat.mod_lt _ (by decide)
theorem comp_five (h : List Nat) (l : List UInt8) : Five (comp h l) := sumUp_five _ _

/-- n blocks of l mixed in, one after the other. -/
def absH (h : List Nat) (l : List UInt8) : Nat → List Nat
  | 0 => h
  | n + 1 => comp (absH h l n) ((l.drop (64 * n)).take 64)
theorem absH_five {h : List Nat} (f : Five h) (l : List UInt8) (n : Nat) : Five (absH h l n) := by
  cases n with
  | zero => exact f
  | succ n => exact comp_five _ _
theorem absH_add (h : List Nat) (l : List UInt8) (n k : Nat) : absH h l (n + k) = absH (absH h l n) (l.drop (64 * n)) k := by
  induction k with
  | zero => rfl
  | succ k ih =>
    rw [← Nat.add_assoc, absH, absH, ih, List.drop_drop, Nat.mul_add]
theorem absH_front (h : List Nat) (l m : List UInt8) (n : Nat) (hn : 64 * n ≤ l.length) : absH h (l ++ m) n = absH h l n := by
  induction n with
  | zero => rfl
  | succ n ih =>
    rw [absH, absH, ih (by omega), List.drop_append_of_le_length (by omega), List.take_append_of_le_length (by rw [List.length_drop]; omega)]
/-- The words, and what remains, behind l. -/
def inH (h : List Nat) (l : List UInt8) : List Nat := absH h l (l.length / 64)
def inR (l : List UInt8) : List UInt8 := l.drop (64 * (l.length / 64))
theorem inR_len (l : List UInt8) : (inR l).length = l.length % 64 := by rw [inR, List.length_drop]; omega
theorem inH_five {h : List Nat} (f : Five h) (l : List UInt8) : Five (inH h l) := absH_five f _ _
/-- What comes in by two is as what comes in at once. -/
theorem inH_app (h : List Nat) (l m : List UInt8) : inH (inH h l) (inR l ++ m) = inH h (l ++ m) := by
  have e : (l ++ m).length / 64 = l.length / 64 + (inR l ++ m).length / 64 := by
    rw [List.length_append, List.length_append, inR_len]; omega
  unfold inH
  rw [e, absH_add, absH_front h l m _ (by omega), List.drop_append_of_le_length (by omega)]
  rfl
theorem inR_app (l m : List UInt8) : inR (inR l ++ m) = inR (l ++ m) := by
  have e : (l ++ m).length / 64 = l.length / 64 + (inR l ++ m).length / 64 := by
    rw [List.length_append, List.length_append, inR_len]; omega
  have e2 : inR (l ++ m) = (l ++ m).drop (64 * (l.length / 64 + (inR l ++ m).length / 64)) := by rw [← e]; rfl
  rw [e2, Nat.mul_add, ← List.drop_drop, List.drop_append_of_le_length (by omega)]
  rfl

/-- Eight bytes, the highest first. -/
def be8 (n : Nat) : List UInt8 := (List.range 8).map fun i => UInt8.ofNat (n / 256 ^ (7 - i))
def nZero (size : Nat) : Nat := (119 - size % 64) % 64
def endL (size : Nat) : List UInt8 := 128 :: (List.replicate (nZero size) 0 ++ be8 (8 * size))
theorem endL_len (size : Nat) : (endL size).length = nZero size + 9 := by simp [endL, be8]
def wordB (x : Nat) : List UInt8 := [UInt8.ofNat (x / 16777216), UInt8.ofNat (x / 65536), UInt8.ofNat (x / 256), UInt8.ofNat x]
def digH (h : List Nat) : List UInt8 := wordB (h.getD 0 0) ++ wordB (h.getD 1 0) ++ wordB (h.getD 2 0) ++ wordB (h.getD 3 0) ++ wordB (h.getD 4 0)
theorem digH_len (h : List Nat) : (digH h).length = 20 := rfl
/-- The end of a digest under way. -/
def endS (h : List Nat) (r : List UInt8) (size : Nat) : List UInt8 := digH (inH h (r ++ endL size))
def h0L : List Nat := [1732584193, 4023233417, 2562383102, 271733878, 3285377520]
theorem h0_five : Five h0L := ⟨rfl, by decide⟩
def sha1L (l : List UInt8) : List UInt8 := endS (inH h0L l) (inR l) l.length
def sha1B (s : ByteArray) : ByteArray := ⟨(sha1L s.data.toList).toArray⟩
theorem sha1L_len (l : List UInt8) : (sha1L l).length = 20 := rfl
theorem sha1B_size (s : ByteArray) : (sha1B s).size = 20 := rfl
end Go.Proofs.YtmhohponikolfaaGreatDoor
namespace Go.Proofs.YtmhohponikolfaaGreatDoor
set_option linter.unusedVariables false
set_option linter.unusedSimpArgs false
open Go.RowKit
theorem below_a1 (w : World) (o : Obj) : Below w.heap.size w (w.alloc o) := (Below.refl _ w).alloc (Nat.le_refl _) o
theorem below_a2 (w : World) (o o' : Obj) : Below w.heap.size w ((w.alloc o).alloc o') := (below_a1 w o).alloc (by simp) o'
theorem below_a3 (w : World) (o o' o'' : Obj) : Below w.heap.size w (((w.alloc o).alloc o').alloc o'') := (below_a2 w o o').alloc (by simp; omega) o''
theorem below_then {w w1 w2 : World} (h : Below w.heap.size w w1) (k : Below w1.heap.size w1 w2) : Below w.heap.size w w2 := h.trans (k.mono h.size)
theorem bcell2 {W w1 : World} (hb : Below W.heap.size W w1) : (∀ b o, b < W.heap.size → w1.cell? ⟨b, o, none⟩ = W.cell? ⟨b, o, none⟩) ∧ (∀ b o, b < W.heap.size → w1.frozen? ⟨b, o, none⟩ = W.frozen? ⟨b, o, none⟩) :=
  ⟨fun b o h => hb.cell (p := ⟨b, o, none⟩) h, fun b o h => hb.frozen (p := ⟨b, o, none⟩) h⟩
theorem hideB2 {p : Prop} (h : p) : Hid p := h
def withinB (n a b : Int) : Bool := decide (a ≤ n) && decide (n ≤ b)
theorem within_iff {n a b : Int} : withinB n a b = true ↔ a ≤ n ∧ n ≤ b := by unfold withinB; simp
set_option maxHeartbeats 400000 in
theorem within_any (n a b : Int) (w : World) :
    Calls Tryz.prog 86 #[.int .i64 n, .int .i64 a, .int .i64 b] w fun e w' => e = .returned (.bool (withinB n a b)) ∧ w' = w := by
  by_cases h : a ≤ n
  · by_cases h' : n ≤ b
    · rw [show withinB n a b = true by simp [withinB, h, h']]
      go_enter Tryz.func86, Tryz.ntmps86
      go_wp2
      go_ret
      exact ⟨rfl, rfl⟩
    · rw [show withinB n a b = false by simp [withinB, h, h']]
      go_enter Tryz.func86, Tryz.ntmps86
      go_wp2
      go_ret
      exact ⟨rfl, rfl⟩
  · rw [show withinB n a b = false by simp [withinB, h]]
    go_enter Tryz.func86, Tryz.ntmps86
    go_wp2
    go_ret
    exact ⟨rfl, rfl⟩
end Go.Proofs.YtmhohponikolfaaGreatDoor
namespace Go.Proofs.YtmhohponikolfaaGreatDoor
set_option linter.unusedVariables false
set_option linter.unusedSimpArgs false
open Go.RowKit
theorem ret_two {a b : Value} {c d : Value} (h : a = c) (k : b = d) : Ending.returned (.tuple #[a, b]) = .returned (.tuple #[c, d]) := by rw [h, k]
/-- Is it a word? -/
def wordQ (n : Int) : Bool := withinB n 0 4294967295
theorem wordQ_iff {n : Int} : wordQ n = true ↔ 0 ≤ n ∧ n ≤ 4294967295 := within_iff
theorem turn_i64w (x n : Nat) (hx : x < 4294967296) (hn : n ≤ 31) :
    bits .and .i64 (bits .or .i64 (wrap64 ((x : Int) * 2 ^ n)) ((x : Int) / 2 ^ (32 - n))) 4294967295 = ((rotl x n : Nat) : Int) := by
  have h1 := mul_pow_lt hx hn
  have e1 : (x : Int) * 2 ^ n = ((x * 2 ^ n : Nat) : Int) := by simp
  have e2 : wrap64 ((x : Int) * 2 ^ n) = (x : Int) * 2 ^ n := by
    rw [e1]
    generalize x * 2 ^ n = y at *
    unfold wrap64
    omega
  rw [e2]
  exact turn_i64 x n hx hn
theorem quarter {t : Nat} (h : t ≤ 79) : (t : Int) / 20 = 0 ∧ fOf t = chs ∧ kOf t = 1518500249 ∨ (t : Int) / 20 = 1 ∧ fOf t = par ∧ kOf t = 1859775393 ∨ (t : Int) / 20 = 2 ∧ fOf t = maj ∧ kOf t = 2400959708 ∨ (t : Int) / 20 = 3 ∧ fOf t = par ∧ kOf t = 3395469782 := by
  have h4 : t / 20 = 0 ∨ t / 20 = 1 ∨ t / 20 = 2 ∨ t / 20 = 3 := by omega
  rcases h4 with e | e | e | e
  · exact .inl ⟨by omega, by funext b c d; simp [fOf, e], by simp [kOf, e]⟩
  · exact .inr (.inl ⟨by omega, by funext b c d; simp [fOf, e], by simp [kOf, e]⟩)
  · exact .inr (.inr (.inl ⟨by omega, by funext b c d; simp [fOf, e], by simp [kOf, e]⟩))
  · exact .inr (.inr (.inr ⟨by omega, by funext b c d; simp [fOf, e], by simp [kOf, e]⟩))
theorem xmask (b : Nat) (hb : b < 4294967296) : bits .xor .u32 4294967295 (b : Int) = ((b ^^^ 4294967295 : Nat) : Int) := by
  have := u32_xor_nat 4294967295 b (by decide) hb
  rw [Nat.xor_comm] at this
  exact this
theorem chs_u32 (b c d : Nat) (hb : b < 4294967296) (hc : c < 4294967296) (hd : d < 4294967296) :
    bits .or .u32 (bits .and .u32 (b : Int) (c : Int)) (bits .and .u32 (bits .xor .u32 4294967295 (b : Int)) (d : Int)) = ((chs b c d : Nat) : Int) := by
  have hx : b ^^^ 4294967295 < 4294967296 := xor_lt32 hb (by decide)
  rw [xmask b hb, u32_and_nat b c hb hc, u32_and_nat _ d hx hd, u32_or_nat _ _ (and_lt32 hc) (and_lt32 hd)]
  rfl
theorem par_u32 (b c d : Nat) (hb : b < 4294967296) (hc : c < 4294967296) (hd : d < 4294967296) :
    bits .xor .u32 (bits .xor .u32 (b : Int) (c : Int)) (d : Int) = ((par b c d : Nat) : Int) := by
  rw [u32_xor_nat b c hb hc, u32_xor_nat _ d (xor_lt32 hb hc) hd]
  rfl
theorem maj_u32 (b c d : Nat) (hb : b < 4294967296) (hc : c < 4294967296) (hd : d < 4294967296) :
    bits .or .u32 (bits .or .u32 (bits .and .u32 (b : Int) (c : Int)) (bits .and .u32 (b : Int) (d : Int))) (bits .and .u32 (c : Int) (d : Int)) = ((maj b c d : Nat) : Int) := by
  rw [u32_and_nat b c hb hc, u32_and_nat b d hb hd, u32_and_nat c d hc hd, u32_or_nat _ _ (and_lt32 hc) (and_lt32 hd), u32_or_nat _ _ (or_lt32 (and_lt32 hc) (and_lt32 hd)) (and_lt32 hd)]
  rfl
theorem chs_i64 (b c d : Nat) (hb : b < 4294967296) (hc : c < 4294967296) (hd : d < 4294967296) :
    bits .or .i64 (bits .and .i64 (b : Int) (c : Int)) (bits .and .i64 (bits .xor .i64 (b : Int) 4294967295) (d : Int)) = ((chs b c d : Nat) : Int) := by
  have hx : b ^^^ 4294967295 < 4294967296 := xor_lt32 hb (by decide)
  have h1 := and_lt32 (a := b) hc
  have h2 := and_lt32 (a := b ^^^ 4294967295) hd
  have e := i64_xor_nat b 4294967295 (by omega) (by decide)
  rw [show bits .xor .i64 (b : Int) 4294967295 = ((b ^^^ 4294967295 : Nat) : Int) from e, i64_and_nat b c (by omega) (by omega), i64_and_nat _ d (by omega) (by omega), i64_or_nat _ _ (by omega) (by omega)]
  rfl
theorem par_i64 (b c d : Nat) (hb : b < 4294967296) (hc : c < 4294967296) (hd : d < 4294967296) :
    bits .xor .i64 (bits .xor .i64 (b : Int) (c : Int)) (d : Int) = ((par b c d : Nat) : Int) := by
  have h1 := xor_lt32 hb hc
  rw [i64_xor_nat b c (by omega) (by omega), i64_xor_nat _ d (by omega) (by omega)]
  rfl
theorem maj_i64 (b c d : Nat) (hb : b < 4294967296) (hc : c < 4294967296) (hd : d < 4294967296) :
    bits .or .i64 (bits .or .i64 (bits .and .i64 (b : Int) (c : Int)) (bits .and .i64 (b : Int) (d : Int))) (bits .and .i64 (c : Int) (d : Int)) = ((maj b c d : Nat) : Int) := by
  have h1 := and_lt32 (a := b) hc
  have h2 := and_lt32 (a := b) hd
  have h3 := and_lt32 (a := c) hd
  have h4 := or_lt32 h1 h2
  rw [i64_and_nat b c (by omega) (by omega), i64_and_nat b d (by omega) (by omega), i64_and_nat c d (by omega) (by omega), i64_or_nat _ _ (by omega) (by omega), i64_or_nat _ _ (by omega) (by omega)]
  rfl
theorem tup2 {a b c d : Int} {k l : IntKind} (h : c = a) (g : d = b) : Ending.returned (.tuple #[.int k a, .int l b]) = .returned (.tuple #[.int k c, .int l d]) := by rw [h, g]
/-- What Turn answers. -/
def turnV (x n : Int) : Int := if wordQ x = true ∧ withinB n 0 31 = true then ((rotl x.toNat n.toNat : Nat) : Int) else -1
theorem turnV_yes (x n : Nat) (hx : x < 4294967296) (hn : n ≤ 31) : turnV x n = ((rotl x n : Nat) : Int) := by
  unfold turnV
  rw [if_pos ⟨wordQ_iff.2 ⟨by omega, by omega⟩, within_iff.2 ⟨by omega, by omega⟩⟩]
  simp
theorem turnV_no {x n : Int} (h : wordQ x = false ∨ withinB n 0 31 = false) : turnV x n = -1 := by
  unfold turnV
  rw [if_neg]
  rintro ⟨h1, h2⟩
  rcases h with h | h
  · rw [h1] at h; cases h
  · rw [h2] at h; cases h
end Go.Proofs.YtmhohponikolfaaGreatDoor
namespace Go.Proofs.YtmhohponikolfaaGreatDoor
set_option linter.unusedVariables false
set_option linter.unusedSimpArgs false
open Go.RowKit
/-- A sign of a host, and of a host's piece. -/
def pcP (n : Int) : Bool := (decide (97 ≤ n) && decide (n ≤ 122)) || digP n || n == 45
def hstP (n : Int) : Bool := pcP n || n == 46
def pc8 (b : UInt8) : Bool := pcP (b.toNat : Int)
def hst8 (b : UInt8) : Bool := hstP (b.toNat : Int)
def hostQ (h : ByteArray) : Bool := decide (h.size ≤ 60) && allB hst8 h && !((splS 46 h).any fun x => eqB x ⟨#[]⟩)
def portB (n : Int) : ByteArray := if n = 80 then ⟨#[]⟩ else (⟨#[58]⟩ : ByteArray) ++ decT n
def qryB (q : ByteArray) (b : Bool) : ByteArray := if b = true then (⟨#[63]⟩ : ByteArray) ++ q else ⟨#[]⟩
def schB : ByteArray := ⟨#[104, 116, 116, 112, 58, 47, 47]⟩
def utxt (ho pa qu : ByteArray) (po : Int) (hq : Bool) : ByteArray := ((schB ++ ho) ++ portB po) ++ pa ++ qryB qu hq
def queQ (q : ByteArray) (b : Bool) : Bool := (b || eqB q ⟨#[]⟩) && decide (idxS 35 q < 0)
def urlQ (ho pa qu : ByteArray) (po : Int) (hq : Bool) : Bool := hostQ ho && withinB po 1 65535 && !eqB pa ⟨#[]⟩ && eqB (clnB pa) pa && queQ qu hq && targQ (utxt ho pa qu po hq)
theorem portB_size (n : Int) : (portB n).size ≤ 16 := by
  unfold portB
  have h := decT_size n
  split
  · show (0 : Nat) ≤ _; omega
  · rw [ByteArray.size_append]
    have e : (⟨#[58]⟩ : ByteArray).size = 1 := rfl
    omega
theorem qryB_size (q : ByteArray) (b : Bool) : (qryB q b).size ≤ q.size + 1 := by
  unfold qryB
  split
  · rw [ByteArray.size_append]
    have e : (⟨#[63]⟩ : ByteArray).size = 1 := rfl
    omega
  · show (0 : Nat) ≤ _; omega
theorem utxt_size (ho pa qu : ByteArray) (po : Int) (hq : Bool) : (utxt ho pa qu po hq).size = 7 + ho.size + (portB po).size + pa.size + (qryB qu hq).size := by
  unfold utxt
  rw [ByteArray.size_append, ByteArray.size_append, ByteArray.size_append, ByteArray.size_append]
  rfl
theorem all_app (p : UInt8 → Bool) (a b : ByteArray) : allB p (a ++ b) = (allB p a && allB p b) := by
  unfold allB
  rw [Go.Joins.data_append, List.all_append]
/-- The pieces have no sign that parts them. -/
theorem splS_all (c : UInt8) (p q : UInt8 → Bool) (hpq : ∀ b, b ≠ c → p b = q b) (hc : p c = true) : ∀ (n : Nat) (s : ByteArray), s.size ≤ n → allB p s = (splS c s).all (allB q)
  | n, s, hn => by
    rcases idxS_cases c s with h | ⟨i, h, hi⟩
    · rw [(splS_none h).2]
      have h0 := idxS_none h
      have e : allB p s = allB q s := by
        unfold allB
        rw [Bool.eq_iff_iff, List.all_eq_true, List.all_eq_true]
        have hx : ∀ b ∈ s.data.toList, p b = q b := by
          intro b hb
          obtain ⟨j, hj, rfl⟩ := List.mem_iff_getElem.1 hb
          have hj' : j < s.size := by rw [len_data] at hj; exact hj
          have := h0 j hj'
          unfold at8 at this
          rw [List.getD, List.getElem?_eq_getElem hj] at this
          exact hpq _ this
        constructor
        · intro hh b hb; rw [← hx b hb]; exact hh b hb
        · intro hh b hb; rw [hx b hb]; exact hh b hb
      rw [e]; simp
    · cases n with
      | zero => omega
      | succ n =>
        obtain ⟨g1, g2, g3⟩ := idxS_some h
        have e2 : (s.extract (i + 1) s.size).size = s.size - (i + 1) := by rw [ByteArray.size_extract]; omega
        have ih := splS_all c p q hpq hc n (s.extract (i + 1) s.size) (by omega)
        have e0 : (s.extract 0 i).size = i := by rw [ByteArray.size_extract]; omega
        have hn0 : idxS c (s.extract 0 i) = -1 := idxS_miss (fun j hj => by
          rw [at8_extS (by omega) (by omega), Nat.zero_add]; exact g3 j (by omega))
        have ih0 := splS_all c p q hpq hc n (s.extract 0 i) (by omega)
        rw [(splS_none hn0).2] at ih0
        rw [(splS_some h).2, List.all_cons, ← ih]
        have e1 : s.data.toList = (s.extract 0 i).data.toList ++ c :: (s.extract (i + 1) s.size).data.toList := by
          have t1 : (s.extract 0 i).data.toList = s.data.toList.take i := by rw [Lib.extract_data, List.drop_zero, Nat.sub_zero]
          have t2 : (s.extract (i + 1) s.size).data.toList = s.data.toList.drop (i + 1) := by
            rw [Lib.extract_data]; exact List.take_of_length_le (by rw [List.length_drop, len_data]; omega)
          rw [t1, t2, ← g2, ← drop_at8 g1, List.take_append_drop]
        have e3 : allB p s = (allB p (s.extract 0 i) && allB p (s.extract (i + 1) s.size)) := by
          unfold allB
          rw [e1, List.all_append, List.all_cons, hc, Bool.true_and]
        rw [e3, ih0]
        simp
theorem hst_pieces (s : ByteArray) : allB hst8 s = (splS 46 s).all (allB pc8) := by
  refine splS_all 46 hst8 pc8 ?_ rfl s.size s (Nat.le_refl _)
  intro b hb
  unfold hst8 pc8 hstP
  have : ((b.toNat : Int) == 46) = false := by
    rw [beq_eq_false_iff_ne]
    intro hh
    exact hb (UInt8.toNat_inj.1 (by have : b.toNat = 46 := by omega
                                    rw [this]; rfl))
  rw [this, Bool.or_false]
theorem pcP_vis {n : Int} (h : hstP n = true) : visP n = true := by
  unfold hstP pcP digP at h
  unfold visP
  simp at h ⊢
  omega
theorem allB_mono {p q : UInt8 → Bool} {s : ByteArray} (h : allB p s = true) (hpq : ∀ b, p b = true → q b = true) : allB q s = true := by
  unfold allB at *
  rw [List.all_eq_true] at *
  intro b hb
  exact hpq b (h b hb)
theorem host_vis {s : ByteArray} (h : allB hst8 s = true) : allB vis8 s = true := allB_mono h (fun b hb => pcP_vis hb)
end Go.Proofs.YtmhohponikolfaaGreatDoor
namespace Go.Proofs.YtmhohponikolfaaGreatDoor
set_option linter.unusedVariables false
set_option linter.unusedSimpArgs false
open Go.RowKit
theorem cell_newT (w : World) (c : Array Value) (t : TypeId) (j k : Nat) (s : ByteArray) (h : c[j]? = some (.string s)) (h1 : s.size ≤ k) : ∃ s : ByteArray, s.size ≤ k ∧ (w.alloc (.cells c t)).cell? ⟨w.heap.size, j, none⟩ = some (.string s) :=
  ⟨s, h1, by simp only [World.cell?, heap_alloc_new]; exact h⟩
theorem kp_alloc1 {p : Nat} {w w' : World} (o : Obj) (h : Kp p (w.alloc o) w') : Kp p w w' := (World.grownBy_alloc w o _ : Kp p w (w.alloc o)).trans h
set_option maxRecDepth 100000 in
set_option maxHeartbeats 4000000 in
theorem l7path_any (p : Nat) (w : World) (hd : Drw w p) :
    Calls Tryz.prog 48 #[.pointer (some ⟨p, 0, none⟩)] w fun e w' => (∃ s : ByteArray, s.size ≤ 28 ∧ e = .returned (.string s)) ∧ Kp p w w' ∧ Drw w' p := by
  go_enter Tryz.func48, Tryz.ntmps48
  go_wp2_with fail
  refine (l1Below_any p 5 _ hd (by omega)).mono ?_
  rintro e w1 ⟨⟨n, hn, _, _, rfl⟩, hk1, hd1⟩
  have hn5 : n < 5 := by have := hn (by omega); omega
  clear hn hd
  have HK1 := hideB2 hk1
  have HD1 := hideB2 hd1
  clear hk1 hd1
  go_wp2
  go_loopw [3, 4] (fun o i wr => ∃ (k : Nat) (s : ByteArray), i = .int .i64 k ∧ o = .string s ∧ s.size + k * 7 ≤ 28 ∧ Kp p w wr ∧ Drw wr p) (fun _ i _ => (intOf i).toNat)
  case atStart => exact ⟨n, ⟨#[]⟩, rfl, rfl, by show 0 + n * 7 ≤ 28; omega, HK1.out, HD1.out⟩
  case round =>
    obtain ⟨k, s, rfl, rfl, hl, hkp, hdr⟩ := hrel
    have HKP := hideB2 hkp
    have hplt := hdr.lt
    clear hkp HK1 HD1
    by_cases hk0 : 0 < k
    · obtain ⟨j, rfl⟩ : ∃ j, k = j + 1 := ⟨k - 1, by omega⟩
      have h1 : (0 : Int) < ((j + 1 : Nat) : Int) := by omega
      have e1 : IntKind.i64.wrap (((j + 1 : Nat) : Int) - 1) = (j : Int) := by rw [IntKind.wrap_i64]; omega
      go_wp2_with fail
      have hcell : ∀ m, m < 13 → ∃ t : ByteArray, t.size ≤ 6 ∧ (wr.alloc (.cells #[.string ⟨#[97]⟩, .string ⟨#[98]⟩, .string ⟨#[46]⟩, .string ⟨#[46, 46]⟩, .string ⟨#[]⟩, .string ⟨#[37, 52, 49]⟩, .string ⟨#[37, 50, 102]⟩, .string ⟨#[37, 55, 101]⟩, .string ⟨#[37, 122, 122]⟩, .string ⟨#[37, 50, 53]⟩, .string ⟨#[46, 46, 46]⟩, .string ⟨#[37, 50, 69]⟩, .string ⟨#[37, 50, 101, 37, 50, 69]⟩] 9)).cell? ⟨wr.heap.size, m, none⟩ = some (.string t) := by
        intro m hm
        rcases m with _ | _ | _ | _ | _ | _ | _ | _ | _ | _ | _ | _ | _ | m
        all_goals first | omega | exact cell_newT _ _ _ _ _ _ rfl (by decide)
      have hka := kp_alloc1 (p := p) (w := wr) (.cells #[.string ⟨#[97]⟩, .string ⟨#[98]⟩, .string ⟨#[46]⟩, .string ⟨#[46, 46]⟩, .string ⟨#[]⟩, .string ⟨#[37, 52, 49]⟩, .string ⟨#[37, 50, 102]⟩, .string ⟨#[37, 55, 101]⟩, .string ⟨#[37, 122, 122]⟩, .string ⟨#[37, 50, 53]⟩, .string ⟨#[46, 46, 46]⟩, .string ⟨#[37, 50, 69]⟩, .string ⟨#[37, 50, 101, 37, 50, 69]⟩] 9) (Kp.refl _ _)
      have hda := hdr.alloc (.cells #[.string ⟨#[97]⟩, .string ⟨#[98]⟩, .string ⟨#[46]⟩, .string ⟨#[46, 46]⟩, .string ⟨#[]⟩, .string ⟨#[37, 52, 49]⟩, .string ⟨#[37, 50, 102]⟩, .string ⟨#[37, 55, 101]⟩, .string ⟨#[37, 122, 122]⟩, .string ⟨#[37, 50, 53]⟩, .string ⟨#[46, 46, 46]⟩, .string ⟨#[37, 50, 69]⟩, .string ⟨#[37, 50, 101, 37, 50, 69]⟩] 9)
      generalize wr.alloc (.cells _ 9) = W at *
      generalize wr.heap.size = g at *
      refine (l1Below_any p 13 _ hda (by omega)).mono ?_
      rintro e w2 ⟨⟨m, hm, _, _, rfl⟩, hk2, hd2⟩
      have hm13 : m < 13 := by have := hm (by omega); omega
      obtain ⟨t, ht, hct⟩ := hcell m hm13
      have hcv := hk2.cell hct (by simp; omega)
      have HK := hideB2 ((HKP.out.trans hka).trans hk2)
      have HD := hideB2 hd2
      have hsz : ((s ++ (⟨#[47]⟩ : ByteArray)) ++ t).size ≤ s.size + 7 := by rw [ByteArray.size_append, ByteArray.size_append]; show s.size + 1 + t.size ≤ _; omega
      have hm0 : (0 : Int) ≤ (m : Int) := by omega
      have hm1 : (m : Int) < 13 := by omega
      clear hcell hct hka hda hm hk2 hd2 hdr
      go_wp2
      exact ⟨⟨j, _, by go_num, rfl, by omega, HK.out, HD.out⟩, by simp [intOf]⟩
    · have h1 : ¬ (0 : Int) < (k : Int) := by omega
      have HD := hideB2 hdr
      have hs : s.size ≤ 28 := by omega
      clear hdr hl
      go_wp2
      go_ret
      exact ⟨⟨s, hs, rfl⟩, HKP.out, HD.out⟩
set_option maxRecDepth 100000 in
set_option maxHeartbeats 4000000 in
theorem DrawCleanPath_any (a : Option Addr) (len cap : Nat) (w : World) (hc : Code w a len) :
    Calls Tryz.prog 20 #[.slice a len cap] w fun e w' => (∃ s : ByteArray, s.size ≤ 300 ∧ e = .returned (.string s)) ∧ Below w.heap.size w w' := by
  go_enter Tryz.func20, Tryz.ntmps20
  go_wp2_with fail
  refine (l1New_any a len cap _ hc.row hc.max).mono ?_
  rintro e w1 ⟨rfl, hb1, hd1⟩
  clear hc
  go_wp2_with fail
  refine (l7path_any _ _ hd1).mono ?_
  rintro e w2 ⟨⟨s, hs, rfl⟩, hk2, hd2⟩
  have hb2 := hb1.trans (hk2.below (Nat.le_refl _) hb1.size)
  clear hk2 hd1 hb1
  go_wp2_with fail
  refine (l1Below_any _ 9 _ hd2 (by omega)).mono ?_
  rintro e w3 ⟨⟨n, hn, _, _, rfl⟩, hk3, hd3⟩
  have hn9 : n < 9 := by have := hn (by omega); omega
  have hb3 := hb2.trans (hk3.below (Nat.le_refl _) hb2.size)
  clear hn hk3 hd2 hb2
  have hcs : n = 0 ∨ n = 1 ∨ (2 ≤ n ∧ n < 9) := by omega
  rcases hcs with rfl | rfl | ⟨h2, h9⟩
  · go_wp2_with fail
    refine (l1bend_any _ s _ hd3 (by omega)).mono ?_
    rintro e w4 ⟨⟨t, ht, rfl⟩, hk4, hd4⟩
    have HB := hideB2 (hb3.trans (hk4.below (Nat.le_refl _) hb3.size))
    clear hk4 hb3 hd3
    go_wp2
    go_ret
    exact ⟨⟨t, by omega, rfl⟩, HB.out⟩
  · go_wp2_with fail
    refine (l1Below_any _ 2 _ hd3 (by omega)).mono ?_
    rintro e w4 ⟨⟨m, hm, _, _, rfl⟩, hk4, hd4⟩
    have hm2 : m < 2 := by have := hm (by omega); omega
    have hb4 := hb3.trans (hk4.below (Nat.le_refl _) hb3.size)
    clear hm hk4 hb3 hd3
    have e1 : IntKind.i64.wrap (199 + (m : Int)) = ((m + 199 : Nat) : Int) := by rw [IntKind.wrap_i64]; omega
    have e2 : (199 : Int) + (m : Int) = ((m + 199 : Nat) : Int) := by omega
    go_wp2_with fail
    first | rw [e2] | skip
    refine (l1of_any _ (m + 199) _ _ hd4 (by omega) (by decide) (by decide)).mono ?_
    rintro e w5 ⟨⟨l, hl, _, rfl⟩, hk5, hd5⟩
    have hz : (ByteArray.mk l.toArray).size ≤ 201 := by show l.toArray.size ≤ 201; simp; omega
    generalize ByteArray.mk l.toArray = t at *
    have hz2 : ((⟨#[47]⟩ : ByteArray) ++ t).size ≤ 300 := by rw [ByteArray.size_append]; show 1 + t.size ≤ 300; omega
    have HB := hideB2 (hb4.trans (hk5.below (Nat.le_refl _) hb4.size))
    clear hl hk5 hb4 hd4
    go_wp2
    go_ret
    exact ⟨⟨_, hz2, rfl⟩, HB.out⟩
  · have g0 : ((n : Int) == 0) = false := by rw [beq_eq_false_iff_ne]; omega
    have g1 : ((n : Int) == 1) = false := by rw [beq_eq_false_iff_ne]; omega
    have HB := hideB2 hb3
    clear hb3 hd3
    go_wp2
    go_ret
    exact ⟨⟨s, by omega, rfl⟩, HB.out⟩
end Go.Proofs.YtmhohponikolfaaGreatDoor
namespace Go.Proofs.YtmhohponikolfaaGreatDoor
set_option linter.unusedVariables false
set_option linter.unusedSimpArgs false
open Go.RowKit
/-- A text picked of a table of the call's own. -/
theorem pick_text (p n k : Nat) (z : Int) (c : Array Value) (w : World) (hd : Drw w p) (hz : z = (n : Int)) (h0 : 0 < n) (h1 : n ≤ 1000) (hc : ∀ j, j < n → ∃ s : ByteArray, s.size ≤ k ∧ c[j]? = some (.string s)) :
    Calls Tryz.prog 49 #[.pointer (some ⟨p, 0, none⟩), .int .i64 z] (w.alloc (.cells c 9)) fun e w' => (∃ (m : Nat) (s : ByteArray), m < n ∧ s.size ≤ k ∧ e = .returned (.int .i64 m) ∧ w'.cell? ⟨w.heap.size, m, none⟩ = some (.string s)) ∧ Kp p w w' ∧ Drw w' p := by
  subst hz
  have hlt := hd.lt
  refine (l1Below_any p (n : Int) _ (hd.alloc (.cells c 9)) (by omega)).mono ?_
  rintro e w2 ⟨⟨m, hm, _, _, rfl⟩, hk2, hd2⟩
  have hmn : m < n := by have := hm (by omega); omega
  obtain ⟨s, hs, hcs⟩ := hc m hmn
  have hcv : (w.alloc (.cells c 9)).cell? ⟨w.heap.size, m, none⟩ = some (.string s) := by simp only [World.cell?, heap_alloc_new]; exact hcs
  exact ⟨⟨m, s, hmn, hs, rfl, hk2.cell hcv (by show w.heap.size ≠ p; omega)⟩, kp_alloc1 _ hk2, hd2⟩
def porT (m : Nat) : ByteArray := if m = 2 then ⟨#[58, 56, 48]⟩ else if m = 3 then ⟨#[58, 56, 48, 56, 48]⟩ else if m = 4 then ⟨#[58, 54, 53, 53, 51, 53]⟩ else ⟨#[]⟩
theorem porT_size (m : Nat) : (porT m).size ≤ 6 := by
  unfold porT
  split
  · decide
  · split
    · decide
    · split <;> decide
def porC : Array Value := #[.string ⟨#[]⟩, .string ⟨#[]⟩, .string ⟨#[58, 56, 48]⟩, .string ⟨#[58, 56, 48, 56, 48]⟩, .string ⟨#[58, 54, 53, 53, 51, 53]⟩]
theorem por_new (W : World) (m : Nat) (hm : m < 5) : (W.alloc (.cells #[.string ⟨#[]⟩, .string ⟨#[]⟩, .string ⟨#[58, 56, 48]⟩, .string ⟨#[58, 56, 48, 56, 48]⟩, .string ⟨#[58, 54, 53, 53, 51, 53]⟩] 9)).cell? ⟨W.heap.size, m, none⟩ = some (.string (porT m)) := by
  simp only [World.cell?, heap_alloc_new]
  rcases m with _ | _ | _ | _ | _ | m
  all_goals first | omega | rfl
set_option maxRecDepth 100000 in
set_option maxHeartbeats 4000000 in
theorem l7url_any (p : Nat) (w : World) (hd : Drw w p) :
    Calls Tryz.prog 80 #[.pointer (some ⟨p, 0, none⟩)] w fun e w' => (∃ s : ByteArray, s.size ≤ 100 ∧ e = .returned (.string s)) ∧ Kp p w w' ∧ Drw w' p := by
  go_enter Tryz.func80, Tryz.ntmps80
  go_wp2_with fail
  refine (pick_text p 3 7 3 _ _ hd rfl (by omega) (by omega) ?_).mono ?_
  · intro j hj
    rcases j with _ | _ | _ | j
    all_goals first | omega | exact ⟨_, by decide, rfl⟩
  rintro e w1 ⟨⟨m1, s1, hm1, hs1, rfl, hc1⟩, hk1, hd1⟩
  clear hd
  have i1 : (0 : Int) ≤ (m1 : Int) := by omega
  have i2 : (m1 : Int) < 3 := by omega
  generalize w.heap.size = g at *
  go_wp2_with fail
  clear hc1 i1 i2 hm1
  refine (pick_text p 4 13 4 _ _ hd1 rfl (by omega) (by omega) ?_).mono ?_
  · intro j hj
    rcases j with _ | _ | _ | _ | j
    all_goals first | omega | exact ⟨_, by decide, rfl⟩
  rintro e w2 ⟨⟨m2, s2, hm2, hs2, rfl, hc2⟩, hk2, hd2⟩
  have hk := hk1.trans hk2
  clear hd1 hk1 hk2
  have i1 : (0 : Int) ≤ (m2 : Int) := by omega
  have i2 : (m2 : Int) < 4 := by omega
  have hz : (s1 ++ s2).size ≤ 20 := by rw [ByteArray.size_append]; omega
  have HK := hideB2 hk
  have HD := hideB2 hd2
  have hplt := hd2.lt
  clear hk hd2
  go_wp2
  clear hc2 i1 i2 hm2
  generalize s1 ++ s2 = s at *
  clear hs1 hs2
  go_cut [3] (fun t wc => ∃ x : ByteArray, t = .string x ∧ x.size ≤ 54 ∧ Kp p w wc ∧ Drw wc p)
  case first =>
    go_region_with (first
      | (go_at_call 49; refine (l1Below_any p 5 _ ?_ (by omega)).mono ?_; (first | exact HD.out.alloc _ | exact HD.out); rintro e w3 ⟨⟨m, hm, _, _, rfl⟩, hk3, hd3⟩; have hm5 : m < 5 := (by have := hm (by omega); omega); have j1 : (0 : Int) ≤ (m : Int) := (by omega); have j2 : (m : Int) < 5 := (by omega); have hs3 := porT_size m; have hcn := (fun W => por_new W m hm5); (first | have hc3 : w3.cell? ⟨w2.heap.size, m, none⟩ = some (.string (porT m)) := hk3.cell (por_new _ m hm5) (by show w2.heap.size ≠ p; omega) | skip))
      | (go_at_call 48; refine (l7path_any p _ ?_).mono ?_; (first | exact hd3 | exact hd3.alloc _); rintro e w4 ⟨⟨s4, hs4, rfl⟩, hk4, hd4⟩; (first | have hc4 : w4.cell? ⟨w2.heap.size, m, none⟩ = some (.string (porT m)) := hk4.cell hc3 (by show w2.heap.size ≠ p; omega) | have hc4 : w4.cell? ⟨w3.heap.size, m, none⟩ = some (.string (porT m)) := hk4.cell (por_new _ m hm5) (by show w3.heap.size ≠ p; (have hh := hk3.size; show w3.heap.size ≠ p; (have h2 : w2.heap.size ≤ w3.heap.size := hh); omega)) | skip)))
    all_goals
      have k3 : Kp p w2 w3 := by first | exact kp_alloc1 _ (Kp.of_drew hk3) | exact Kp.of_drew hk3 | exact kp_alloc1 _ hk3 | exact hk3
      have k4 : Kp p w3 w4 := by first | exact kp_alloc1 _ (Kp.of_drew hk4) | exact Kp.of_drew hk4 | exact kp_alloc1 _ hk4 | exact hk4
      have kk := (HK.out.trans k3).trans k4
      go_wp2_with fail
      go_meet
      exact ⟨_, rfl, by rw [ByteArray.size_append, ByteArray.size_append]; omega, by first | exact kk | exact kk.drew | exact kk.alloc _ | exact (kk.alloc _).drew | exact kk.drew.alloc _, by first | exact hd4 | exact hd4.drew | exact hd4.alloc _ | exact (hd4.alloc _).drew | exact hd4.drew.alloc _⟩
  case rest =>
    obtain ⟨x, rfl, hx, hkx, hdx⟩ := hcut
    clear HK HD hplt hz
    go_wp2_with fail
    refine (l1Once_any p 3 _ hdx (by omega)).mono ?_
    rintro e w5 ⟨⟨b, rfl⟩, hk5, hd5⟩
    have hk6 := hkx.trans hk5
    clear hkx hk5 hdx
    cases b
    · have HK := hideB2 hk6
      have HD := hideB2 hd5
      clear hk6 hd5
      go_wp2
      go_ret
      exact ⟨⟨x, by omega, rfl⟩, HK.out, HD.out⟩
    · go_wp2_with fail
      refine (l1Below_any p 5 _ hd5 (by omega)).mono ?_
      rintro e w6 ⟨⟨n, hn, _, _, rfl⟩, hk7, hd6⟩
      have hn5 : n < 5 := by have := hn (by omega); omega
      have hk8 := hk6.trans hk7
      clear hn hk6 hk7 hd5
      go_wp2_with fail
      refine (l1of_any p n _ _ hd6 (by omega) (by decide) (by decide)).mono ?_
      rintro e w7 ⟨⟨l, hl, _, rfl⟩, hk9, hd7⟩
      have hzl : (ByteArray.mk l.toArray).size ≤ 5 := by show l.toArray.size ≤ 5; simp; omega
      generalize ByteArray.mk l.toArray = t at *
      have hz2 : ((x ++ (⟨#[63]⟩ : ByteArray)) ++ t).size ≤ 100 := by rw [ByteArray.size_append, ByteArray.size_append]; show x.size + 1 + t.size ≤ 100; omega
      have HK := hideB2 (hk8.trans hk9)
      have HD := hideB2 hd7
      clear hl hk8 hk9 hd6 hd7
      go_wp2
      go_ret
      exact ⟨⟨_, hz2, rfl⟩, HK.out, HD.out⟩
set_option maxRecDepth 100000 in
set_option maxHeartbeats 4000000 in
theorem l7urlBent_any (p : Nat) (w : World) (hd : Drw w p) :
    Calls Tryz.prog 37 #[.pointer (some ⟨p, 0, none⟩)] w fun e w' => (∃ s : ByteArray, s.size ≤ 300 ∧ e = .returned (.string s)) ∧ Kp p w w' ∧ Drw w' p := by
  go_enter Tryz.func37, Tryz.ntmps37
  go_wp2_with fail
  refine (l7url_any p _ hd).mono ?_
  rintro e w2 ⟨⟨s, hs, rfl⟩, hk2, hd2⟩
  clear hd
  go_wp2_with fail
  refine (l1Below_any p 9 _ hd2 (by omega)).mono ?_
  rintro e w3 ⟨⟨n, hn, _, _, rfl⟩, hk3, hd3⟩
  have hn9 : n < 9 := by have := hn (by omega); omega
  have hk := hk2.trans hk3
  clear hn hk3 hd2 hk2
  have hcs : n = 0 ∨ n = 1 ∨ n = 2 ∨ (3 ≤ n ∧ n < 9) := by omega
  rcases hcs with rfl | rfl | rfl | ⟨h2, h9⟩
  · go_wp2_with fail
    refine (l1bend_any p s _ hd3 (by omega)).mono ?_
    rintro e w4 ⟨⟨t, ht, rfl⟩, hk4, hd4⟩
    have HB := hideB2 (hk.trans hk4)
    have HD := hideB2 hd4
    clear hk4 hk hd3 hd4
    go_wp2
    go_ret
    exact ⟨⟨t, by omega, rfl⟩, HB.out, HD.out⟩
  · go_wp2_with fail
    refine (l1Below_any p 2 _ hd3 (by omega)).mono ?_
    rintro e w4 ⟨⟨m, hm, _, _, rfl⟩, hk4, hd4⟩
    have hm2 : m < 2 := by have := hm (by omega); omega
    have hk5 := hk.trans hk4
    clear hm hk4 hd3 hk
    have e1 : IntKind.i64.wrap (191 + (m : Int)) = ((m + 191 : Nat) : Int) := by rw [IntKind.wrap_i64]; omega
    have e2 : (191 : Int) + (m : Int) = ((m + 191 : Nat) : Int) := by omega
    go_wp2_with fail
    first | rw [e2] | skip
    refine (l1of_any p (m + 191) _ _ hd4 (by omega) (by decide) (by decide)).mono ?_
    rintro e w5 ⟨⟨l, hl, _, rfl⟩, hk6, hd6⟩
    have hz : (ByteArray.mk l.toArray).size ≤ 200 := by show l.toArray.size ≤ 200; simp; omega
    generalize ByteArray.mk l.toArray = t at *
    have hz2 : ((⟨#[104, 116, 116, 112, 58, 47, 47, 97, 47]⟩ : ByteArray) ++ t).size ≤ 300 := by rw [ByteArray.size_append]; show 9 + t.size ≤ 300; omega
    have HB := hideB2 (hk5.trans hk6)
    have HD := hideB2 hd6
    clear hl hk5 hk6 hd4 hd6
    go_wp2
    go_ret
    exact ⟨⟨_, hz2, rfl⟩, HB.out, HD.out⟩
  · go_wp2_with fail
    refine (pick_text p 9 20 9 _ _ hd3 rfl (by omega) (by omega) ?_).mono ?_
    · intro j hj
      rcases j with _ | _ | _ | _ | _ | _ | _ | _ | _ | j
      all_goals first | omega | exact ⟨_, by decide, rfl⟩
    rintro e w4 ⟨⟨m2, s2, hm2, hs2, rfl, hc2⟩, hk4, hd4⟩
    have i1 : (0 : Int) ≤ (m2 : Int) := by omega
    have i2 : (m2 : Int) < 9 := by omega
    have HB := hideB2 (hk.trans hk4)
    have HD := hideB2 hd4
    clear hk hk4 hd3 hd4
    go_wp2
    go_ret
    exact ⟨⟨s2, by omega, rfl⟩, HB.out, HD.out⟩
  · have g0 : ((n : Int) == 0) = false := by rw [beq_eq_false_iff_ne]; omega
    have g1 : ((n : Int) == 1) = false := by rw [beq_eq_false_iff_ne]; omega
    have g2 : ((n : Int) == 2) = false := by rw [beq_eq_false_iff_ne]; omega
    have HB := hideB2 hk
    have HD := hideB2 hd3
    clear hk hd3
    go_wp2
    go_ret
    exact ⟨⟨s, by omega, rfl⟩, HB.out, HD.out⟩
set_option maxHeartbeats 1000000 in
theorem DrawCanon_any (a : Option Addr) (len cap : Nat) (w : World) (hc : Code w a len) :
    Calls Tryz.prog 14 #[.slice a len cap] w fun e w' => (∃ s : ByteArray, s.size ≤ 300 ∧ e = .returned (.string s)) ∧ Below w.heap.size w w' := by
  go_enter Tryz.func14, Tryz.ntmps14
  go_wp2_with fail
  refine (l1New_any a len cap _ hc.row hc.max).mono ?_
  rintro e w1 ⟨rfl, hb1, hd1⟩
  go_wp2_with fail
  refine (l7urlBent_any _ _ hd1).mono ?_
  rintro e w2 ⟨⟨s, hs, rfl⟩, hk2, hd2⟩
  have HB := hideB2 (hb1.trans (hk2.below (Nat.le_refl _) hb1.size))
  clear hb1 hk2 hd1 hd2 hc
  go_wp2
  go_ret
  exact ⟨⟨s, hs, rfl⟩, HB.out⟩
end Go.Proofs.YtmhohponikolfaaGreatDoor
namespace Go.Proofs.YtmhohponikolfaaGreatDoor
set_option linter.unusedVariables false
set_option linter.unusedSimpArgs false
open Go.RowKit

/-- The value v is a slice of the call's own that holds the texts l; nothing that was there in w0 has turned. -/
structure BufS (w0 w : World) (v : Value) (l : List ByteArray) : Prop where
  below : Below w0.heap.size w0 w
  own : w.ownsRow w0.heap.size 9 1 v l.length (l.map Value.string)

theorem Tryz.infoStr : (Tryz.prog.info? 9).map (fun i => (i.zero, i.size, i.bytes)) = some (some (.string ⟨#[]⟩), 1, 16) := by kernel_rfl

theorem BufS.start (w : World) : BufS w w (.slice none 0 0) [] := ⟨Below.refl _ _, World.ownsRow_nil _ _ _ _⟩
theorem BufS.alloc {w0 w : World} {v : Value} {l : List ByteArray} (h : BufS w0 w v l) (o : Obj) : BufS w0 (w.alloc o) v l :=
  ⟨h.below.alloc h.below.size o, h.own.alloc o⟩
theorem BufS.form {w0 w : World} {v : Value} {l : List ByteArray} (h : BufS w0 w v l) : ∃ (a : Option Addr) (c : Nat), v = .slice a l.length c := by
  rcases h.own.2 with ⟨h1, h2⟩ | ⟨g, cap, cur, h1, _⟩
  · exact ⟨none, 0, by rw [h1, h2]⟩
  · exact ⟨_, _, h1⟩
/-- A call that leaves all old blocks alone leaves the row. -/
theorem BufS.later {w0 w w' : World} {v : Value} {l : List ByteArray} (h : BufS w0 w v l) (hb : Below w.heap.size w w') : BufS w0 w' v l := by
  refine ⟨h.below.trans (hb.mono h.below.size), ?_⟩
  exact h.own.kept (row := none) ⟨hb.os, hb.tape, hb.output, hb.size, fun k hk _ => hb.block k hk⟩ (by
    cases hv : v.ownBlock with
    | none => exact Or.inl rfl
    | some g => exact Or.inr (by intro e; cases e))
/-- The row's cells, where there is one. -/
theorem BufS.cells {w0 w : World} {v : Value} {l : List ByteArray} (h : BufS w0 w v l) (hl : 0 < l.length) : ∃ g cap, v = .slice (some ⟨g, 0, none⟩) l.length cap ∧ w0.heap.size ≤ g ∧ g < w.heap.size ∧ ∀ j, j < l.length → w.cell? ⟨g, j, none⟩ = some (.string (l.getD j ⟨#[]⟩)) := by
  rcases h.own.2 with ⟨h1, h2⟩ | ⟨g, cap, cur, h1, hg, hh, _⟩
  · omega
  · have hlt := (h.own.lt g (by rw [h1]; rfl)).2
    refine ⟨g, cap, h1, hg, hlt, fun j hj => ?_⟩
    have := h.own.cells (g := g) (by rw [h1]; rfl) j (.string l[j]) (by simp [List.getElem?_eq_getElem hj])
    rw [Addr.add_lit, Nat.zero_add] at this
    rw [this]
    simp [List.getD, List.getElem?_eq_getElem hj]
theorem wp_sapp {ops : Array Oper} {rest : List Oper} {o : Oper} {a : Act} {Q : Exit → Act → World → Prop} {w0 W : World} (hgd : o.guard = none) (s x : Operand)
    (ho : o.op = .call { callee := .builtin .append, args := #[s, x], argTypes := #[26, 26] }) (v : Value) (l : List ByteArray) (hs : a.eval s = v) (hbuf : BufS w0 W v l)
    (y : ByteArray) (hx : a.eval x = .slice (some ⟨W.heap.size, 0, none⟩) 1 1) (hlen : l.length ≤ 1073741824)
    (h : ∀ v' W', BufS w0 W' v' (l ++ [y]) → wpList Tryz.prog ops Q rest (a.put o.dst v') W') :
    wpList Tryz.prog ops Q (o :: rest) a (W.alloc (.cells #[.string y] 9)) := by
  obtain ⟨i0, hi, hz0, hz1, hz2⟩ := info_parts Tryz.infoStr
  refine wpList_append_own _ hgd s x 26 ho w0.heap.size 9 i0 (.string ⟨#[]⟩) 1 16 Tryz.underlying26 hi hz0 hz1 hz2 rfl (by decide) v l.length (l.map Value.string) hs (hbuf.own.alloc _) ⟨W.heap.size, 0, none⟩ 1 1 [.string y] hx rfl (cell_one_new _ _ _) (fun u hu => by simp at hu; subst hu; rfl) (by unfold maxLen; omega) (by omega) (by have := hbuf.below.size; simp; omega) ?_
  intro v' W' hown hgrow _
  refine h v' W' ⟨?_, ?_⟩
  · refine (hbuf.alloc _).below.grown hgrow (by have := hbuf.below.size; simp; omega) ?_
    intro k hk
    exact (hbuf.own.lt k hk).1
  · rw [List.length_append, List.length_singleton, List.map_append]
    exact hown
end Go.Proofs.YtmhohponikolfaaGreatDoor
namespace Go.Proofs
open Go.Shelf
def Tryz.lays221_ren : Go.Shelf.Ren := ⟨fun | 221 => 95 | 268 => 133 | 138 => 134 | 143 => 87 | 195 => 157 | 197 => 158 | 218 => 159 | 219 => 125 | 260 => 181 | 217 => 150 | 225 => 151 | 224 => 152 | 267 => 153 | 266 => 179 | 314 => 180 | n => n, fun | 9 => 9 | 3 => 3 | 31 => 26 | 4 => 4 | 0 => 0 | 105 => 128 | 21 => 21 | 5 => 5 | 46 => 109 | 119 => 161 | 139 => 164 | 138 => 163 | 146 => 147 | 51 => 144 | n => n, fun | 1 => 1 | 3 => 2 | 4 => 3 | n => n⟩
theorem Tryz.lays221 : Go.Proofs.Lays.n221 Tryz.prog Tryz.lays221_ren := {
  mixed := by kernel_rfl
  f138 := Tryz.func134.trans (congrArg some (by kernel_rfl))
  f143 := Tryz.func87.trans (congrArg some (by kernel_rfl))
  f195 := Tryz.func157.trans (congrArg some (by kernel_rfl))
  f197 := Tryz.func158.trans (congrArg some (by kernel_rfl))
  f217 := Tryz.func150.trans (congrArg some (by kernel_rfl))
  f218 := Tryz.func159.trans (congrArg some (by kernel_rfl))
  f219 := Tryz.func125.trans (congrArg some (by kernel_rfl))
  f221 := Tryz.func95.trans (congrArg some (by kernel_rfl))
  f224 := Tryz.func152.trans (congrArg some (by kernel_rfl))
  f225 := Tryz.func151.trans (congrArg some (by kernel_rfl))
  f260 := Tryz.func181.trans (congrArg some (by kernel_rfl))
  f266 := Tryz.func179.trans (congrArg some (by kernel_rfl))
  f267 := Tryz.func153.trans (congrArg some (by kernel_rfl))
  f268 := Tryz.func133.trans (congrArg some (by kernel_rfl))
  f314 := Tryz.func180.trans (congrArg some (by kernel_rfl))
  t0 := Tryz.underlying0
  a0 := Tryz.isAgg0
  z0 := Tryz.sizeOf0
  v0 := Tryz.zeroValue0
  t3 := Tryz.underlying3
  a3 := Tryz.isAgg3
  z3 := Tryz.sizeOf3
  v3 := Tryz.zeroValue3
  t4 := Tryz.underlying4
  a4 := Tryz.isAgg4
  z4 := Tryz.sizeOf4
  v4 := Tryz.zeroValue4
  t5 := Tryz.underlying5
  a5 := Tryz.isAgg5
  z5 := Tryz.sizeOf5
  v5 := Tryz.zeroValue5
  t9 := Tryz.underlying9
  a9 := Tryz.isAgg9
  z9 := Tryz.sizeOf9
  v9 := Tryz.zeroValue9
  t21 := Tryz.underlying21
  a21 := Tryz.isAgg21
  z21 := Tryz.sizeOf21
  v21 := Tryz.zeroValue21
  t31 := Tryz.underlying26
  a31 := Tryz.isAgg26
  z31 := Tryz.sizeOf26
  v31 := Tryz.zeroValue26
  t46 := Tryz.underlying109
  a46 := Tryz.isAgg109
  z46 := Tryz.sizeOf109
  v46 := Tryz.zeroValue109
  t51 := Tryz.underlying144
  a51 := Tryz.isAgg144
  z51 := Tryz.sizeOf144
  v51 := Tryz.zeroValue144
  t105 := Tryz.underlying128
  a105 := Tryz.isAgg128
  z105 := Tryz.sizeOf128
  v105 := Tryz.zeroValue128
  t119 := Tryz.underlying161
  a119 := Tryz.isAgg161
  z119 := Tryz.sizeOf161
  t138 := Tryz.underlying163
  a138 := Tryz.isAgg163
  z138 := Tryz.sizeOf163
  v138 := Tryz.zeroValue163
  t139 := Tryz.underlying164
  a139 := Tryz.isAgg164
  z139 := Tryz.sizeOf164
  v139 := Tryz.zeroValue164
  t146 := Tryz.underlying147
  a146 := Tryz.isAgg147
  z146 := Tryz.sizeOf147
  v146 := Tryz.zeroValue147
  g1 := by kernel_rfl
  g3 := by kernel_rfl
  g4 := by kernel_rfl }
end Go.Proofs
namespace Go.Proofs
open Go.Shelf
def Tryz.lays143_ren : Go.Shelf.Ren := ⟨fun | 143 => 87 | 219 => 125 | 217 => 150 | 225 => 151 | 224 => 152 | 267 => 153 | 266 => 179 | 314 => 180 | n => n, fun | 9 => 9 | 3 => 3 | 4 => 4 | 5 => 5 | 46 => 109 | 146 => 147 | 51 => 144 | n => n, fun | 1 => 1 | n => n⟩
theorem Tryz.lays143 : Go.Proofs.Lays.n143 Tryz.prog Tryz.lays143_ren := {
  mixed := by kernel_rfl
  f143 := Tryz.func87.trans (congrArg some (by kernel_rfl))
  f217 := Tryz.func150.trans (congrArg some (by kernel_rfl))
  f219 := Tryz.func125.trans (congrArg some (by kernel_rfl))
  f224 := Tryz.func152.trans (congrArg some (by kernel_rfl))
  f225 := Tryz.func151.trans (congrArg some (by kernel_rfl))
  f266 := Tryz.func179.trans (congrArg some (by kernel_rfl))
  f267 := Tryz.func153.trans (congrArg some (by kernel_rfl))
  f314 := Tryz.func180.trans (congrArg some (by kernel_rfl))
  t3 := Tryz.underlying3
  a3 := Tryz.isAgg3
  z3 := Tryz.sizeOf3
  v3 := Tryz.zeroValue3
  t4 := Tryz.underlying4
  a4 := Tryz.isAgg4
  z4 := Tryz.sizeOf4
  v4 := Tryz.zeroValue4
  t5 := Tryz.underlying5
  a5 := Tryz.isAgg5
  z5 := Tryz.sizeOf5
  v5 := Tryz.zeroValue5
  t9 := Tryz.underlying9
  a9 := Tryz.isAgg9
  z9 := Tryz.sizeOf9
  v9 := Tryz.zeroValue9
  t46 := Tryz.underlying109
  a46 := Tryz.isAgg109
  z46 := Tryz.sizeOf109
  v46 := Tryz.zeroValue109
  t51 := Tryz.underlying144
  a51 := Tryz.isAgg144
  z51 := Tryz.sizeOf144
  v51 := Tryz.zeroValue144
  t146 := Tryz.underlying147
  a146 := Tryz.isAgg147
  z146 := Tryz.sizeOf147
  v146 := Tryz.zeroValue147
  g1 := by kernel_rfl }
end Go.Proofs
