/-
  A row of bytes that the call itself makes and appends to, one byte at a time. · The walks over chapter 1: Quote. · Plain texts; both sides. · The walks over chapter 1's small functions. · The walks over chapter 1: gaps, digits, Trim. · The walks over chapter 1: Token. · Chapter 5: may a field stand in a head? Both sides. · Chapter 5: may they all stand in a head? A field as a line. Both sides. · Plain functions of chapter 1: decimal numbers. No Go in sight. · The walks over chapter 1: spec.DecText, ReadDec. · impl.DecText by strconv.Itoa's contract; what it asks of the world comes of the row's listed tables. · A method, a status: what they may be. · Chapter 6: messages, on lists. No Go in sight. · Chapter 6: names that speak of a body's bounds. No Go in sight. · A row of texts that the call itself makes and appends to, one text at a time.
-/
import Derived.Test.YthdgeepedofleaaGreatDoorProg
import Derived.Test.YthdgeepedofleaaGreatDoorJ0
import Derived.Lib.ConvBytes
import Derived.Laws.IdiomStrings
import Derived.Laws.BytesArg
import Derived.Lib.AppendStr
import Derived.Lib.SmallJoins
import Derived.Lib.ItoaNum
import Derived.Deep.RegionWith
import Derived.Shelf.Strconv.Itoa3
import Derived.Shelf.Lay
import Derived.Lib.LaidTab
import Derived.Lib.AppendIntMem
import Derived.LaidLaws
namespace Go.Proofs.YthdgeepedofleaaGreatDoor
set_option linter.unusedVariables false
set_option linter.unusedSimpArgs false
open Go.RowKit

def c8 (b : UInt8) : Value := .int .u8 (b.toNat : Int)
/-- The value v is a slice of the call's own that holds the bytes l; nothing that was there in w0 has turned. -/
structure Buf (w0 w : World) (v : Value) (l : List UInt8) : Prop where
  below : Below w0.heap.size w0 w
  own : w.ownsRow w0.heap.size 5 1 v l.length (l.map c8)

theorem Tryz.infoU8 : (Tryz.prog.info? 5).map (fun i => (i.zero, i.size, i.bytes)) = some (some (.int .u8 0), 1, 1) := by kernel_rfl

theorem Buf.start (w : World) : Buf w w (.slice none 0 0) [] := ⟨Below.refl _ _, World.ownsRow_nil _ _ _ _⟩
theorem Buf.alloc {w0 w : World} {v : Value} {l : List UInt8} (h : Buf w0 w v l) (o : Obj) : Buf w0 (w.alloc o) v l :=
  ⟨h.below.alloc h.below.size o, h.own.alloc o⟩
theorem Buf.one (w : World) (n : Int) (y : UInt8) (hy : n = (y.toNat : Int)) : Buf w (w.alloc (.cells #[.int .u8 n] 5)) (.slice (some ⟨w.heap.size, 0, none⟩) 1 1) [y] := by
  subst hy
  exact ⟨(Below.refl _ _).alloc (Nat.le_refl _) _, ⟨by simp, .inr ⟨w.heap.size, 1, #[.int .u8 (y.toNat : Int)], rfl, Nat.le_refl _, heap_alloc_new w _, Nat.le_refl _, by decide, by simp, by simp [c8]⟩⟩⟩
theorem Buf.form {w0 w : World} {v : Value} {l : List UInt8} (h : Buf w0 w v l) : ∃ (a : Option Addr) (c : Nat), v = .slice a l.length c := by
  rcases h.own.2 with ⟨h1, h2⟩ | ⟨g, cap, cur, h1, _⟩
  · exact ⟨none, 0, by rw [h1, h2]⟩
  · exact ⟨_, _, h1⟩
theorem Buf.text {w0 w : World} {v : Value} {l : List UInt8} (h : Buf w0 w v l) :
    (convert 22 9 v).run Tryz.prog w = .ok (.string ⟨l.toArray⟩) w := by
  have hl : l.map (fun b => UInt8.ofNat ((b.toNat : Int)).toNat) = l := by
    conv => rhs; rw [← List.map_id l]
    apply List.map_congr_left
    intro b _
    simp
  rcases h.own.2 with ⟨h1, h2⟩ | ⟨g, cap, cur, h1, _, hh, _, _, _, ht⟩
  · have : l = [] := List.length_eq_zero_iff.1 h2
    subst this
    rw [h1]
    exact run_convert_bytes_nil (P := Tryz.prog) w 22 5 Tryz.underlying22 Tryz.underlying5 0 0 9 Tryz.underlying9
  · subst h1
    have hc : ∀ i, i < l.length → w.cell? ⟨g, 0 + i, none⟩ = some (.int .u8 ((l.map fun b => (b.toNat : Int)).getD i 0)) := by
      intro i hi
      have := h.own.cells (g := g) rfl i (.int .u8 ((l[i].toNat : Int))) (by simp [c8, List.getElem?_eq_getElem hi])
      rw [Addr.add_lit] at this
      rw [this]
      simp [List.getD, List.getElem?_eq_getElem hi]
    have := run_convert_bytes_arg (P := Tryz.prog) w 22 5 Tryz.underlying22 Tryz.underlying5 g 0 l.length cap (l.map fun b => (b.toNat : Int)) (by simp) hc 9 Tryz.underlying9
    rw [this]
    simp only [strOfNums, List.map_map]
    exact congrArg (fun x : Array UInt8 => Result.ok (Value.string ⟨x⟩) w) (congrArg List.toArray hl)
theorem wp_app {ops : Array Oper} {rest : List Oper} {o : Oper} {a : Act} {Q : Exit → Act → World → Prop} {w0 W : World} (hgd : o.guard = none) (s x : Operand)
    (ho : o.op = .call { callee := .builtin .append, args := #[s, x], argTypes := #[22, 22] }) (v : Value) (l : List UInt8) (hs : a.eval s = v) (hbuf : Buf w0 W v l)
    (n : Int) (y : UInt8) (hy : n = (y.toNat : Int)) (hx : a.eval x = .slice (some ⟨W.heap.size, 0, none⟩) 1 1) (hlen : l.length ≤ 1099511627776)
    (h : ∀ v' W', Buf w0 W' v' (l ++ [y]) → wpList Tryz.prog ops Q rest (a.put o.dst v') W') :
    wpList Tryz.prog ops Q (o :: rest) a (W.alloc (.cells #[.int .u8 n] 5)) := by
  subst hy
  obtain ⟨i0, hi, hz0, hz1, hz2⟩ := info_parts Tryz.infoU8
  refine wpList_append_own _ hgd s x 22 ho w0.heap.size 5 i0 (.int .u8 0) 1 1 Tryz.underlying22 hi hz0 hz1 hz2 rfl (by decide) v l.length (l.map c8) hs (hbuf.own.alloc _) ⟨W.heap.size, 0, none⟩ 1 1 [c8 y] hx rfl (cell_one_new _ _ _) (fun u hu => by simp at hu; subst hu; rfl) (by unfold maxLen; omega) (by omega) (by have := hbuf.below.size; simp; omega) ?_
  intro v' W' hown hgrow _
  refine h v' W' ⟨?_, ?_⟩
  · refine (hbuf.alloc _).below.grown hgrow (by have := hbuf.below.size; simp; omega) ?_
    intro k hk
    exact (hbuf.own.lt k hk).1
  · rw [List.length_append, List.length_singleton, List.map_append]
    exact hown
end Go.Proofs.YthdgeepedofleaaGreatDoor
namespace Go.Proofs.YthdgeepedofleaaGreatDoor
set_option linter.unusedVariables false
set_option linter.unusedSimpArgs false
open Go.RowKit

theorem ret_sb {s t : ByteArray} {a b : Bool} (h : t = s) (h' : b = a) : Ending.returned (.tuple #[.string s, .bool a]) = .returned (.tuple #[.string t, .bool b]) := by rw [h, h']
set_option maxHeartbeats 400000 in
theorem plainByte_any (n : Int) (w : World) :
    Calls Tryz.prog 301 #[.int .u8 n] w fun e w' => e = .returned (.bool (plainP n)) ∧ w' = w := by
  cases h : (n == 9)
  · by_cases h2 : 32 ≤ n
    · rw [plainP_hi h h2]
      go_enter Tryz.func301, Tryz.ntmps301
      go_wp2
      go_ret
      exact ⟨rfl, rfl⟩
    · rw [plainP_lo h h2]
      have h3 : decide (32 ≤ n) = false := by simpa using h2
      go_enter Tryz.func301, Tryz.ntmps301
      go_wp2
      go_ret
      exact ⟨rfl, rfl⟩
  · rw [plainP_yes h]
    go_enter Tryz.func301, Tryz.ntmps301
    go_wp2
    go_ret
    exact ⟨rfl, rfl⟩
set_option maxHeartbeats 400000 in
theorem l1plain_any (n : Int) (w : World) :
    Calls Tryz.prog 213 #[.int .u8 n] w fun e w' => e = .returned (.bool (plainP n)) ∧ w' = w := by
  cases h : (n == 9)
  · by_cases h2 : 32 ≤ n
    · rw [plainP_hi h h2]
      go_enter Tryz.func213, Tryz.ntmps213
      go_wp2
      go_ret
      exact ⟨rfl, rfl⟩
    · rw [plainP_lo h h2]
      have h3 : decide (32 ≤ n) = false := by simpa using h2
      go_enter Tryz.func213, Tryz.ntmps213
      go_wp2
      go_ret
      exact ⟨rfl, rfl⟩
  · rw [plainP_yes h]
    go_enter Tryz.func213, Tryz.ntmps213
    go_wp2
    go_ret
    exact ⟨rfl, rfl⟩
end Go.Proofs.YthdgeepedofleaaGreatDoor
namespace Go.Proofs.YthdgeepedofleaaGreatDoor
set_option linter.unusedVariables false
set_option linter.unusedSimpArgs false
open Go.RowKit
set_option maxHeartbeats 1000000 in
theorem plainText_any (s : ByteArray) (w : World) (hs : s.size ≤ maxLen) :
    Calls Tryz.prog 272 #[.string s] w fun e w' => e = .returned (.bool (plnB s)) ∧ w' = w := by
  unfold maxLen at hs
  go_enter Tryz.func272, Tryz.ntmps272
  go_wp2
  go_loop [6] (fun i => ∃ k : Nat, k ≤ s.size ∧ i = .int .i64 k ∧ ∀ j, j < k → plain8 (at8 s j) = true) (fun i => s.size - (intOf i).toNat)
  case atStart => exact ⟨0, Nat.zero_le _, rfl, fun j hj => by omega⟩
  case round =>
    obtain ⟨k, hk, rfl, hall⟩ := hrel
    have Hall : Hid (∀ j, j < k → plain8 (at8 s j) = true) := hall
    clear hall
    by_cases hlt : k < s.size
    · cases hg0 : plain8 (at8 s k)
      · have hg : plainP (s[k].toNat : Int) = false := by rw [at8_eq s k hlt]; exact hg0
        have hfin : Hid (plnB s = false) := plnB_no hlt hg0
        clear hg0
        go_wp2_with (go_at_call 301; refine (plainByte_any _ _).mono ?_; rintro e w' ⟨rfl, rfl⟩)
        go_ret
        exact ⟨ret_bool hfin.out, rfl⟩
      · have hg : plainP (s[k].toNat : Int) = true := by rw [at8_eq s k hlt]; exact hg0
        have Hg : Hid (plain8 (at8 s k) = true) := hg0
        clear hg0
        go_wp2_with (go_at_call 301; refine (plainByte_any _ _).mono ?_; rintro e w' ⟨rfl, rfl⟩)
        go_round
        case rel => exact ⟨k + 1, by omega, by go_num, all_succ Hall.out Hg.out⟩
        case measure => simp [intOf]; omega
    · have hfin : Hid (plnB s = true) := plnB_yes (fun j hj => Hall.out j (by omega))
      go_wp2
      go_ret
      exact ⟨ret_bool hfin.out, rfl⟩
set_option maxHeartbeats 1000000 in
theorem l5plain_any (s : ByteArray) (w : World) (hs : s.size ≤ maxLen) :
    Calls Tryz.prog 174 #[.string s] w fun e w' => e = .returned (.bool (plnB s)) ∧ w' = w := by
  unfold maxLen at hs
  go_enter Tryz.func174, Tryz.ntmps174
  go_wp2
  go_loop [3] (fun i => ∃ k : Nat, k ≤ s.size ∧ i = .int .i64 k ∧ ∀ j, j < k → plain8 (at8 s j) = true) (fun i => s.size - (intOf i).toNat)
  case atStart => exact ⟨0, Nat.zero_le _, rfl, fun j hj => by omega⟩
  case round =>
    obtain ⟨k, hk, rfl, hall⟩ := hrel
    have Hall : Hid (∀ j, j < k → plain8 (at8 s j) = true) := hall
    clear hall
    by_cases hlt : k < s.size
    · cases hg0 : plain8 (at8 s k)
      · have hg : plainP (s[k].toNat : Int) = false := by rw [at8_eq s k hlt]; exact hg0
        have hfin : Hid (plnB s = false) := plnB_no hlt hg0
        clear hg0
        go_wp2_with (go_at_call 213; refine (l1plain_any _ _).mono ?_; rintro e w' ⟨rfl, rfl⟩)
        go_ret
        exact ⟨ret_bool hfin.out, rfl⟩
      · have hg : plainP (s[k].toNat : Int) = true := by rw [at8_eq s k hlt]; exact hg0
        have Hg : Hid (plain8 (at8 s k) = true) := hg0
        clear hg0
        go_wp2_with (go_at_call 213; refine (l1plain_any _ _).mono ?_; rintro e w' ⟨rfl, rfl⟩)
        go_round
        case rel => exact ⟨k + 1, by omega, by go_num, all_succ Hall.out Hg.out⟩
        case measure => simp [intOf]; omega
    · have hfin : Hid (plnB s = true) := plnB_yes (fun j hj => Hall.out j (by omega))
      go_wp2
      go_ret
      exact ⟨ret_bool hfin.out, rfl⟩
end Go.Proofs.YthdgeepedofleaaGreatDoor
namespace Go.Proofs.YthdgeepedofleaaGreatDoor
set_option linter.unusedVariables false
set_option linter.unusedSimpArgs false
open Go.RowKit

set_option maxHeartbeats 400000 in
theorem smallByte_any (n : Int) (w : World) (h0 : 0 ≤ n) (h1 : n ≤ 255) :
    Calls Tryz.prog 223 #[.int .u8 n] w fun e w' => e = .returned (.int .u8 (lowI n)) ∧ w' = w := by
  unfold lowI
  by_cases ha : 65 ≤ n
  · by_cases hb : n ≤ 90
    · rw [if_pos ⟨ha, hb⟩]
      go_enter Tryz.func223, Tryz.ntmps223
      go_wp2
      go_ret
      exact ⟨rfl, rfl⟩
    · rw [if_neg (by omega)]
      go_enter Tryz.func223, Tryz.ntmps223
      go_wp2
      go_ret
      exact ⟨rfl, rfl⟩
  · rw [if_neg (by omega)]
    go_enter Tryz.func223, Tryz.ntmps223
    go_wp2
    go_ret
    exact ⟨rfl, rfl⟩
set_option maxHeartbeats 400000 in
theorem l1lower_any (n : Int) (w : World) (h0 : 0 ≤ n) (h1 : n ≤ 255) :
    Calls Tryz.prog 165 #[.int .u8 n] w fun e w' => e = .returned (.int .u8 (lowI n)) ∧ w' = w := by
  unfold lowI
  by_cases ha : 65 ≤ n
  · by_cases hb : n ≤ 90
    · rw [if_pos ⟨ha, hb⟩]
      go_enter Tryz.func165, Tryz.ntmps165
      go_wp2
      go_ret
      exact ⟨rfl, rfl⟩
    · rw [if_neg (by omega)]
      go_enter Tryz.func165, Tryz.ntmps165
      go_wp2
      go_ret
      exact ⟨rfl, rfl⟩
  · rw [if_neg (by omega)]
    go_enter Tryz.func165, Tryz.ntmps165
    go_wp2
    go_ret
    exact ⟨rfl, rfl⟩
end Go.Proofs.YthdgeepedofleaaGreatDoor
namespace Go.Proofs.YthdgeepedofleaaGreatDoor
set_option linter.unusedVariables false
set_option linter.unusedSimpArgs false
open Go.RowKit

theorem gapP_yes1 {n : Int} (h : (n == 32) = true) : gapP n = true := by simp [gapP, h]
theorem gapP_no1 {n : Int} (h : (n == 32) = false) : gapP n = (n == 9) := by simp [gapP, h]
theorem digP_no1 {n : Int} (h : ¬ 48 ≤ n) : digP n = false := by simp [digP, h]
theorem digP_yes1 {n : Int} (h : 48 ≤ n) : digP n = decide (n ≤ 57) := by simp [digP, h]

set_option maxHeartbeats 400000 in
theorem gapByte_any (n : Int) (w : World) :
    Calls Tryz.prog 303 #[.int .u8 n] w fun e w' => e = .returned (.bool (gapP n)) ∧ w' = w := by
  cases h : (n == 32)
  · rw [gapP_no1 h]
    go_enter Tryz.func303, Tryz.ntmps303
    go_wp2
    go_ret
    exact ⟨rfl, rfl⟩
  · rw [gapP_yes1 h]
    go_enter Tryz.func303, Tryz.ntmps303
    go_wp2
    go_ret
    exact ⟨rfl, rfl⟩
set_option maxHeartbeats 400000 in
theorem l1white_any (n : Int) (w : World) :
    Calls Tryz.prog 247 #[.int .u8 n] w fun e w' => e = .returned (.bool (gapP n)) ∧ w' = w := by
  cases h : (n == 32)
  · rw [gapP_no1 h]
    go_enter Tryz.func247, Tryz.ntmps247
    go_wp2
    go_ret
    exact ⟨rfl, rfl⟩
  · rw [gapP_yes1 h]
    go_enter Tryz.func247, Tryz.ntmps247
    go_wp2
    go_ret
    exact ⟨rfl, rfl⟩
set_option maxHeartbeats 400000 in
theorem digitByte_any (n : Int) (w : World) :
    Calls Tryz.prog 261 #[.int .u8 n] w fun e w' => e = .returned (.bool (digP n)) ∧ w' = w := by
  by_cases h : 48 ≤ n
  · rw [digP_yes1 h]
    go_enter Tryz.func261, Tryz.ntmps261
    go_wp2
    go_ret
    exact ⟨rfl, rfl⟩
  · rw [digP_no1 h]
    go_enter Tryz.func261, Tryz.ntmps261
    go_wp2
    go_ret
    exact ⟨rfl, rfl⟩
set_option maxHeartbeats 400000 in
theorem l1digit_any (n : Int) (w : World) :
    Calls Tryz.prog 166 #[.int .u8 n] w fun e w' => e = .returned (.bool (digP n)) ∧ w' = w := by
  by_cases h : 48 ≤ n
  · rw [digP_yes1 h]
    go_enter Tryz.func166, Tryz.ntmps166
    go_wp2
    go_ret
    exact ⟨rfl, rfl⟩
  · rw [digP_no1 h]
    go_enter Tryz.func166, Tryz.ntmps166
    go_wp2
    go_ret
    exact ⟨rfl, rfl⟩
set_option maxHeartbeats 1000000 in
theorem Trim_any (s : ByteArray) (w : World) (hs : s.size ≤ maxLen) :
    Calls Tryz.prog 283 #[.string s] w fun e w' => e = .returned (.string (trimB s)) ∧ w' = w := by
  unfold maxLen at hs
  go_enter Tryz.func283, Tryz.ntmps283
  go_wp2
  go_loop [3] (fun i => ∃ k : Nat, k ≤ s.size ∧ i = .int .i64 k ∧ ∀ j, j < k → gap8 (at8 s j) = true) (fun i => s.size - (intOf i).toNat)
  case atStart => exact ⟨0, Nat.zero_le _, rfl, fun j hj => by omega⟩
  case round =>
    obtain ⟨k, hk, rfl, hall⟩ := hrel
    have Hall : Hid (∀ j, j < k → gap8 (at8 s j) = true) := hall
    clear hall
    by_cases hc : k < s.size ∧ gap8 (at8 s k) = true
    · obtain ⟨hlt, hg0⟩ := hc
      have hg : gapP (s[k].toNat : Int) = true := by rw [at8_eq s k hlt]; exact hg0
      have Hg : Hid (gap8 (at8 s k) = true) := hg0
      clear hg0
      go_wp2_with (go_at_call 303; refine (gapByte_any _ _).mono ?_; rintro e w' ⟨rfl, rfl⟩)
      go_round
      case rel => exact ⟨k + 1, by omega, by go_num, all_succ Hall.out Hg.out⟩
      case measure => simp [intOf]; omega
    · have HE : Hid (k = s.size ∨ gap8 (at8 s k) = false) := by
        rcases Nat.lt_or_ge k s.size with h | h
        · right; exact Bool.eq_false_iff.2 (fun hh => hc ⟨h, hh⟩)
        · left; omega
      have hway : (∃ h : k < s.size, gapP (s[k].toNat : Int) = false) ∨ ¬ k < s.size := by
        rcases Nat.lt_or_ge k s.size with h | h
        · left; refine ⟨h, ?_⟩; rw [at8_eq s k h]; exact Bool.eq_false_iff.2 (fun hh => hc ⟨h, hh⟩)
        · right; omega
      clear hc
      rcases hway with ⟨hlt, hg⟩ | hlt
      all_goals
        go_wp2_with (go_at_call 303; refine (gapByte_any _ _).mono ?_; rintro e w' ⟨rfl, rfl⟩)
        try clear hg
        try clear hlt
        go_loop [4] (fun i => ∃ t : Nat, k ≤ t ∧ t ≤ s.size ∧ i = .int .i64 t ∧ ∀ j, t ≤ j → j < s.size → gap8 (at8 s j) = true) (fun i => (intOf i).toNat)
        case atStart => exact ⟨s.size, hk, Nat.le_refl _, rfl, fun j h1 h2 => by omega⟩
        case round =>
          obtain ⟨t, hkt, ht, rfl, hz⟩ := hrel
          have Hz : Hid (∀ j, t ≤ j → j < s.size → gap8 (at8 s j) = true) := hz
          clear hz
          by_cases hc : k < t ∧ gap8 (at8 s (t - 1)) = true
          · obtain ⟨hlt2, hg0⟩ := hc
            obtain ⟨u, rfl⟩ : ∃ u, t = u + 1 := ⟨t - 1, by omega⟩
            have hu : u < s.size := by omega
            have hg2 : gapP (s[u].toNat : Int) = true := by rw [at8_eq s u hu]; exact hg0
            have Hg : Hid (gap8 (at8 s u) = true) := hg0
            clear hg0
            go_wp2_with (go_at_call 303; refine (gapByte_any _ _).mono ?_; rintro e w' ⟨rfl, rfl⟩)
            go_round
            case rel => exact ⟨u, by omega, by omega, by go_num, all_pred Hz.out Hg.out⟩
            case measure => simp [intOf] <;> omega
          · have HF : Hid (t = k ∨ gap8 (at8 s (t - 1)) = false) := by
              rcases Nat.lt_or_ge k t with h | h
              · right; exact Bool.eq_false_iff.2 (fun hh => hc ⟨h, hh⟩)
              · left; omega
            have hfin : Hid (s.extract k t = trimB s) := trim_of s k t Hall.out HE.out hkt ht Hz.out HF.out
            by_cases hlt2 : k < t
            · obtain ⟨u, rfl⟩ : ∃ u, t = u + 1 := ⟨t - 1, by omega⟩
              have hu : u < s.size := by omega
              have hg2 : gapP (s[u].toNat : Int) = false := by
                rw [at8_eq s u hu]; exact Bool.eq_false_iff.2 (fun hh => hc ⟨hlt2, hh⟩)
              clear hc
              go_wp2_with (go_at_call 303; refine (gapByte_any _ _).mono ?_; rintro e w' ⟨rfl, rfl⟩)
              go_ret
              exact ⟨by rw [← hfin.out]; first | rfl | simp, rfl⟩
            · clear hc
              go_wp2_with (go_at_call 303; refine (gapByte_any _ _).mono ?_; rintro e w' ⟨rfl, rfl⟩)
              go_ret
              exact ⟨by rw [← hfin.out]; first | rfl | simp, rfl⟩
set_option maxHeartbeats 1000000 in
theorem sTrim_any (s : ByteArray) (w : World) (hs : s.size ≤ maxLen) :
    Calls Tryz.prog 203 #[.string s] w fun e w' => e = .returned (.string (trimB s)) ∧ w' = w := by
  unfold maxLen at hs
  go_enter Tryz.func203, Tryz.ntmps203
  go_wp2
  go_loop [3] (fun i => ∃ k : Nat, k ≤ s.size ∧ i = .int .i64 k ∧ ∀ j, j < k → gap8 (at8 s j) = true) (fun i => s.size - (intOf i).toNat)
  case atStart => exact ⟨0, Nat.zero_le _, rfl, fun j hj => by omega⟩
  case round =>
    obtain ⟨k, hk, rfl, hall⟩ := hrel
    have Hall : Hid (∀ j, j < k → gap8 (at8 s j) = true) := hall
    clear hall
    by_cases hc : k < s.size ∧ gap8 (at8 s k) = true
    · obtain ⟨hlt, hg0⟩ := hc
      have hg : gapP (s[k].toNat : Int) = true := by rw [at8_eq s k hlt]; exact hg0
      have Hg : Hid (gap8 (at8 s k) = true) := hg0
      clear hg0
      go_wp2_with (go_at_call 247; refine (l1white_any _ _).mono ?_; rintro e w' ⟨rfl, rfl⟩)
      go_round
      case rel => exact ⟨k + 1, by omega, by go_num, all_succ Hall.out Hg.out⟩
      case measure => simp [intOf]; omega
    · have HE : Hid (k = s.size ∨ gap8 (at8 s k) = false) := by
        rcases Nat.lt_or_ge k s.size with h | h
        · right; exact Bool.eq_false_iff.2 (fun hh => hc ⟨h, hh⟩)
        · left; omega
      have hway : (∃ h : k < s.size, gapP (s[k].toNat : Int) = false) ∨ ¬ k < s.size := by
        rcases Nat.lt_or_ge k s.size with h | h
        · left; refine ⟨h, ?_⟩; rw [at8_eq s k h]; exact Bool.eq_false_iff.2 (fun hh => hc ⟨h, hh⟩)
        · right; omega
      clear hc
      rcases hway with ⟨hlt, hg⟩ | hlt
      all_goals
        go_wp2_with (go_at_call 247; refine (l1white_any _ _).mono ?_; rintro e w' ⟨rfl, rfl⟩)
        try clear hg
        try clear hlt
        go_loop [4] (fun i => ∃ t : Nat, k ≤ t ∧ t ≤ s.size ∧ i = .int .i64 t ∧ ∀ j, t ≤ j → j < s.size → gap8 (at8 s j) = true) (fun i => (intOf i).toNat)
        case atStart => exact ⟨s.size, hk, Nat.le_refl _, rfl, fun j h1 h2 => by omega⟩
        case round =>
          obtain ⟨t, hkt, ht, rfl, hz⟩ := hrel
          have Hz : Hid (∀ j, t ≤ j → j < s.size → gap8 (at8 s j) = true) := hz
          clear hz
          by_cases hc : k < t ∧ gap8 (at8 s (t - 1)) = true
          · obtain ⟨hlt2, hg0⟩ := hc
            obtain ⟨u, rfl⟩ : ∃ u, t = u + 1 := ⟨t - 1, by omega⟩
            have hu : u < s.size := by omega
            have hg2 : gapP (s[u].toNat : Int) = true := by rw [at8_eq s u hu]; exact hg0
            have Hg : Hid (gap8 (at8 s u) = true) := hg0
            clear hg0
            go_wp2_with (go_at_call 247; refine (l1white_any _ _).mono ?_; rintro e w' ⟨rfl, rfl⟩)
            go_round
            case rel => exact ⟨u, by omega, by omega, by go_num, all_pred Hz.out Hg.out⟩
            case measure => simp [intOf] <;> omega
          · have HF : Hid (t = k ∨ gap8 (at8 s (t - 1)) = false) := by
              rcases Nat.lt_or_ge k t with h | h
              · right; exact Bool.eq_false_iff.2 (fun hh => hc ⟨h, hh⟩)
              · left; omega
            have hfin : Hid (s.extract k t = trimB s) := trim_of s k t Hall.out HE.out hkt ht Hz.out HF.out
            by_cases hlt2 : k < t
            · obtain ⟨u, rfl⟩ : ∃ u, t = u + 1 := ⟨t - 1, by omega⟩
              have hu : u < s.size := by omega
              have hg2 : gapP (s[u].toNat : Int) = false := by
                rw [at8_eq s u hu]; exact Bool.eq_false_iff.2 (fun hh => hc ⟨hlt2, hh⟩)
              clear hc
              go_wp2_with (go_at_call 247; refine (l1white_any _ _).mono ?_; rintro e w' ⟨rfl, rfl⟩)
              go_ret
              exact ⟨by rw [← hfin.out]; first | rfl | simp, rfl⟩
            · clear hc
              go_wp2_with (go_at_call 247; refine (l1white_any _ _).mono ?_; rintro e w' ⟨rfl, rfl⟩)
              go_ret
              exact ⟨by rw [← hfin.out]; first | rfl | simp, rfl⟩
end Go.Proofs.YthdgeepedofleaaGreatDoor
namespace Go.Proofs.YthdgeepedofleaaGreatDoor
set_option linter.unusedVariables false
set_option linter.unusedSimpArgs false
open Go.RowKit


theorem hideB3 {p : Prop} (h : p) : Hid p := h
theorem letP_yes {n : Int} (h1 : 97 ≤ lowI n) (h2 : lowI n ≤ 122) : letP n = true := by simp [letP, h1, h2]
theorem letP_no {n : Int} (h : lowI n < 97 ∨ 122 < lowI n) : letP n = false := by
  unfold letP
  rcases h with h | h
  · simp [show ¬ 97 ≤ lowI n by omega]
  · simp [show ¬ lowI n ≤ 122 by omega]
/-- The signs of impl's token, as the text has them. -/
theorem tokSigns_at (k : Nat) (hk : k < (⟨#[33, 35, 36, 37, 38, 39, 42, 43, 45, 46, 94, 95, 124, 126, 96]⟩ : ByteArray).size) : (⟨#[33, 35, 36, 37, 38, 39, 42, 43, 45, 46, 94, 95, 124, 126, 96]⟩ : ByteArray)[k] = tokSigns.getD k 0 := by
  rw [at8_eq _ k hk]; rfl
set_option maxHeartbeats 1000000 in
theorem letterByte_any (n : Int) (w : World) (h0 : 0 ≤ n) (h1 : n ≤ 255) :
    Calls Tryz.prog 310 #[.int .u8 n] w fun e w' => e = .returned (.bool (letP n)) ∧ w' = w := by
  unfold letP
  generalize hm : lowI n = m
  have HM := hideB3 hm
  clear hm
  by_cases hl : 97 ≤ m
  · go_enter Tryz.func310, Tryz.ntmps310
    go_wp2_with (go_at_call 223; refine (smallByte_any _ _ h0 h1).mono ?_; rintro e w' ⟨rfl, rfl⟩; rw [HM.out])
    go_ret
    exact ⟨ret_bool (by first | (simp [hl]; done) | (simp; omega)), rfl⟩
  · go_enter Tryz.func310, Tryz.ntmps310
    go_wp2_with (go_at_call 223; refine (smallByte_any _ _ h0 h1).mono ?_; rintro e w' ⟨rfl, rfl⟩; rw [HM.out])
    go_ret
    exact ⟨ret_bool (by first | (simp [hl]; done) | (simp; omega)), rfl⟩
set_option maxHeartbeats 1000000 in
theorem tokenByte_sig (n : Int) (w : World) (h0 : 0 ≤ n) (h1 : n ≤ 255) (hl : letP n = false) (hd : digP n = false) :
    Calls Tryz.prog 302 #[.int .u8 n] w fun e w' => e = .returned (.bool (inL tokSigns n)) ∧ w' = w := by
  go_enter Tryz.func302, Tryz.ntmps302
  go_wp2_with (first | (go_at_call 310; refine (letterByte_any _ _ h0 h1).mono ?_; rintro e w' ⟨rfl, rfl⟩; rw [hl]) | (go_at_call 261; refine (digitByte_any _ _).mono ?_; rintro e w' ⟨rfl, rfl⟩))
  go_loop [10] (fun i => ∃ k : Nat, k ≤ 15 ∧ i = .int .i64 k ∧ ∀ j, j < k → ((tokSigns.getD j 0).toNat : Int) ≠ n) (fun i => 15 - (intOf i).toNat)
  case atStart => exact ⟨0, Nat.zero_le _, rfl, fun j hj => by omega⟩
  case round =>
    obtain ⟨k, hk, rfl, hall⟩ := hrel
    have Hall : Hid (∀ j, j < k → ((tokSigns.getD j 0).toNat : Int) ≠ n) := hall
    clear hall
    by_cases hlt : k < 15
    · have hb : k < (⟨#[33, 35, 36, 37, 38, 39, 42, 43, 45, 46, 94, 95, 124, 126, 96]⟩ : ByteArray).size := hlt
      go_wp2
      · have hh : (((⟨#[33, 35, 36, 37, 38, 39, 42, 43, 45, 46, 94, 95, 124, 126, 96]⟩ : ByteArray)[k].toNat : Int) == n) = true := by assumption
        go_ret
        rw [tokSigns_at k hb, beq_iff_eq] at hh
        have hl2 : k < tokSigns.length := hlt
        have e : inL tokSigns n = true := inL_hit hl2 (by rw [← hh, List.getD, List.getElem?_eq_getElem hl2]; rfl)
        exact ⟨ret_bool e, rfl⟩
      · have hh : (((⟨#[33, 35, 36, 37, 38, 39, 42, 43, 45, 46, 94, 95, 124, 126, 96]⟩ : ByteArray)[k].toNat : Int) == n) = false := by assumption
        rw [tokSigns_at k hb, beq_eq_false_iff_ne] at hh
        go_round
        case rel => exact ⟨k + 1, by omega, by go_num, all_succ Hall.out hh⟩
        case measure => simp [intOf]; omega
    · have e : Hid (inL tokSigns n = false) := inL_miss (fun j hj => Hall.out j (by have : tokSigns.length = 15 := rfl; omega))
      go_wp2
      go_ret
      exact ⟨ret_bool e.out, rfl⟩

set_option maxHeartbeats 1000000 in
theorem tokenByte_any (n : Int) (w : World) (h0 : 0 ≤ n) (h1 : n ≤ 255) :
    Calls Tryz.prog 302 #[.int .u8 n] w fun e w' => e = .returned (.bool (tokP n)) ∧ w' = w := by
  cases hl : letP n
  · cases hd : digP n
    · rw [tokP_sig hl hd]
      exact tokenByte_sig n w h0 h1 hl hd
    · rw [tokP_dig hd]
      go_enter Tryz.func302, Tryz.ntmps302
      go_wp2_with (first | (go_at_call 310; refine (letterByte_any _ _ h0 h1).mono ?_; rintro e w' ⟨rfl, rfl⟩; rw [hl]) | (go_at_call 261; refine (digitByte_any _ _).mono ?_; rintro e w' ⟨rfl, rfl⟩))
      go_ret
      exact ⟨rfl, rfl⟩
  · rw [tokP_let hl]
    go_enter Tryz.func302, Tryz.ntmps302
    go_wp2_with (first | (go_at_call 310; refine (letterByte_any _ _ h0 h1).mono ?_; rintro e w' ⟨rfl, rfl⟩; rw [hl]) | (go_at_call 261; refine (digitByte_any _ _).mono ?_; rintro e w' ⟨rfl, rfl⟩))
    go_ret
    exact ⟨rfl, rfl⟩
set_option maxHeartbeats 1000000 in
theorem l1has_any (s : ByteArray) (n : Int) (w : World) (hs : s.size ≤ maxLen) :
    Calls Tryz.prog 248 #[.string s, .int .u8 n] w fun e w' => e = .returned (.bool (inL s.data.toList n)) ∧ w' = w := by
  unfold maxLen at hs
  go_enter Tryz.func248, Tryz.ntmps248
  go_wp2
  go_loop [5] (fun i => ∃ k : Nat, k ≤ s.size ∧ i = .int .i64 k ∧ ∀ j, j < k → ((s.data.toList.getD j 0).toNat : Int) ≠ n) (fun i => s.size - (intOf i).toNat)
  case atStart => exact ⟨0, Nat.zero_le _, rfl, fun j hj => by omega⟩
  case round =>
    obtain ⟨k, hk, rfl, hall⟩ := hrel
    have Hall : Hid (∀ j, j < k → ((s.data.toList.getD j 0).toNat : Int) ≠ n) := hall
    clear hall
    by_cases hlt : k < s.size
    · have hl2 : k < s.data.toList.length := by simpa using hlt
      have hat : s[k] = s.data.toList.getD k 0 := at8_eq s k hlt
      have Hat : Hid (s[k] = s.data.toList.getD k 0) := hat
      clear hat
      cases hq : ((s[k].toNat : Int) == n)
      · go_wp2
        go_round
        case rel => exact ⟨k + 1, by omega, by go_num, all_succ Hall.out (by rw [← Hat.out]; simpa using hq)⟩
        case measure => simp [intOf]; omega
      · have e : Hid (inL s.data.toList n = true) := inL_hit hl2 (by rw [beq_iff_eq] at hq; rw [← hq, Hat.out, List.getD, List.getElem?_eq_getElem hl2]; rfl)
        go_wp2
        go_ret
        exact ⟨ret_bool e.out, rfl⟩
    · have e : Hid (inL s.data.toList n = false) := inL_miss (fun j hj => Hall.out j (by have := len_data s; omega))
      go_wp2
      go_ret
      exact ⟨ret_bool e.out, rfl⟩
set_option maxHeartbeats 1000000 in
theorem l1tchar_any (n : Int) (w : World) (h0 : 0 ≤ n) (h1 : n ≤ 255) :
    Calls Tryz.prog 212 #[.int .u8 n] w fun e w' => e = .returned (.bool (tokP n)) ∧ w' = w := by
  by_cases hl : 97 ≤ lowI n ∧ lowI n ≤ 122
  · obtain ⟨hl1, hl2⟩ := hl
    rw [tokP_let (letP_yes hl1 hl2)]
    go_enter Tryz.func212, Tryz.ntmps212
    go_wp2_with (first | (go_at_call 165; refine (l1lower_any _ _ (by omega) (by omega)).mono ?_; rintro e w' ⟨rfl, rfl⟩) | (go_at_call 166; refine (l1digit_any _ _).mono ?_; rintro e w' ⟨rfl, rfl⟩) | (go_at_call 248; refine (l1has_any _ _ _ (by decide)).mono ?_; rintro e w' ⟨rfl, rfl⟩))
    go_ret
    exact ⟨rfl, rfl⟩
  · have hl' : lowI n < 97 ∨ 122 < lowI n := by omega
    have hl2 : lowI n < 97 ∨ (122 < lowI n ∧ decide (lowI n ≤ 122) = false) := by
      rcases hl' with h | h
      · exact Or.inl h
      · exact Or.inr ⟨h, by simp; omega⟩
    clear hl
    cases hd : digP n
    · cases h96 : (n == 96)
      · rw [tokP_14 (letP_no hl') hd h96]
        rcases hl2 with hl | ⟨hl, hl3⟩
        all_goals
          go_enter Tryz.func212, Tryz.ntmps212
          go_wp2_with (first | (go_at_call 165; refine (l1lower_any _ _ (by omega) (by omega)).mono ?_; rintro e w' ⟨rfl, rfl⟩) | (go_at_call 166; refine (l1digit_any _ _).mono ?_; rintro e w' ⟨rfl, rfl⟩) | (go_at_call 248; refine (l1has_any _ _ _ (by decide)).mono ?_; rintro e w' ⟨rfl, rfl⟩))
          go_ret
          exact ⟨rfl, rfl⟩
      · rw [tokP_96 (letP_no hl') hd h96]
        rcases hl2 with hl | ⟨hl, hl3⟩
        all_goals
          go_enter Tryz.func212, Tryz.ntmps212
          go_wp2_with (first | (go_at_call 165; refine (l1lower_any _ _ (by omega) (by omega)).mono ?_; rintro e w' ⟨rfl, rfl⟩) | (go_at_call 166; refine (l1digit_any _ _).mono ?_; rintro e w' ⟨rfl, rfl⟩) | (go_at_call 248; refine (l1has_any _ _ _ (by decide)).mono ?_; rintro e w' ⟨rfl, rfl⟩))
          go_ret
          exact ⟨rfl, rfl⟩
    · rw [tokP_dig hd]
      rcases hl2 with hl | ⟨hl, hl3⟩
      all_goals
        go_enter Tryz.func212, Tryz.ntmps212
        go_wp2_with (first | (go_at_call 165; refine (l1lower_any _ _ (by omega) (by omega)).mono ?_; rintro e w' ⟨rfl, rfl⟩) | (go_at_call 166; refine (l1digit_any _ _).mono ?_; rintro e w' ⟨rfl, rfl⟩) | (go_at_call 248; refine (l1has_any _ _ _ (by decide)).mono ?_; rintro e w' ⟨rfl, rfl⟩))
        go_ret
        exact ⟨rfl, rfl⟩
set_option maxHeartbeats 1000000 in
theorem Token_any (s : ByteArray) (w : World) (hs : s.size ≤ maxLen) :
    Calls Tryz.prog 273 #[.string s] w fun e w' => e = .returned (.bool (tokB s)) ∧ w' = w := by
  unfold maxLen at hs
  by_cases h0 : s.size = 0
  · rw [tokB_size (Or.inl h0)]
    have hne : s.toList.isEmpty = true := by rw [ByteArray.toList_eq, List.isEmpty_iff, ← List.length_eq_zero_iff, Array.length_toList]; exact h0
    go_enter Tryz.func273, Tryz.ntmps273
    go_wp2
    go_ret
    exact ⟨rfl, rfl⟩
  · have hne : s.toList.isEmpty = false := by
      rw [ByteArray.toList_eq, List.isEmpty_eq_false_iff]
      intro hh
      apply h0
      show s.data.size = 0
      rw [← Array.length_toList, hh]; rfl
    have hne2 : ((s.size : Int) == 0) = false := by rw [Bool.eq_false_iff, ne_eq, beq_iff_eq]; omega
    by_cases hbig : (4000 : Int) < (s.size : Int)
    · rw [tokB_size (Or.inr (by omega))]
      go_enter Tryz.func273, Tryz.ntmps273
      go_wp2
      go_ret
      exact ⟨rfl, rfl⟩
    · go_enter Tryz.func273, Tryz.ntmps273
      go_wp2
      clear hne hne2
      go_loop [13] (fun i => ∃ k : Nat, k ≤ s.size ∧ i = .int .i64 k ∧ ∀ j, j < k → tok8 (at8 s j) = true) (fun i => s.size - (intOf i).toNat)
      case atStart => exact ⟨0, Nat.zero_le _, rfl, fun j hj => by omega⟩
      case round =>
        obtain ⟨k, hk, rfl, hall⟩ := hrel
        have Hall : Hid (∀ j, j < k → tok8 (at8 s j) = true) := hall
        clear hall
        by_cases hlt : k < s.size
        · cases hg0 : tok8 (at8 s k)
          · have hg : tokP (s[k].toNat : Int) = false := by rw [at8_eq s k hlt]; exact hg0
            have hfin : Hid (tokB s = false) := tokB_no hlt hg0
            clear hg0
            go_wp2_with (go_at_call 302; refine (tokenByte_any _ _ (u8_lo _) (u8_hi _)).mono ?_; rintro e w' ⟨rfl, rfl⟩)
            go_ret
            exact ⟨ret_bool hfin.out, rfl⟩
          · have hg : tokP (s[k].toNat : Int) = true := by rw [at8_eq s k hlt]; exact hg0
            have Hg : Hid (tok8 (at8 s k) = true) := hg0
            clear hg0
            go_wp2_with (go_at_call 302; refine (tokenByte_any _ _ (u8_lo _) (u8_hi _)).mono ?_; rintro e w' ⟨rfl, rfl⟩)
            go_round
            case rel => exact ⟨k + 1, by omega, by go_num, all_succ Hall.out Hg.out⟩
            case measure => simp [intOf]; omega
        · have hfin : Hid (tokB s = true) := tokB_yes (by omega) (by omega) (fun j hj => Hall.out j (by omega))
          go_wp2
          go_ret
          exact ⟨ret_bool hfin.out, rfl⟩
set_option maxHeartbeats 1000000 in
theorem sToken_any (s : ByteArray) (w : World) (hs : s.size ≤ maxLen) :
    Calls Tryz.prog 173 #[.string s] w fun e w' => e = .returned (.bool (tokB s)) ∧ w' = w := by
  unfold maxLen at hs
  by_cases h0 : s.size = 0
  · rw [tokB_size (Or.inl h0)]
    have hne : ((s.size : Int) == 0) = true := by rw [beq_iff_eq]; omega
    go_enter Tryz.func173, Tryz.ntmps173
    go_wp2
    go_ret
    exact ⟨rfl, rfl⟩
  · have hne : s.toList.isEmpty = false := by
      rw [ByteArray.toList_eq, List.isEmpty_eq_false_iff]
      intro hh
      apply h0
      show s.data.size = 0
      rw [← Array.length_toList, hh]; rfl
    have hne2 : ((s.size : Int) == 0) = false := by rw [Bool.eq_false_iff, ne_eq, beq_iff_eq]; omega
    by_cases hbig : (4000 : Int) < (s.size : Int)
    · rw [tokB_size (Or.inr (by omega))]
      go_enter Tryz.func173, Tryz.ntmps173
      go_wp2
      go_ret
      exact ⟨rfl, rfl⟩
    · go_enter Tryz.func173, Tryz.ntmps173
      go_wp2
      clear hne hne2
      go_loop [3] (fun i => ∃ k : Nat, k ≤ s.size ∧ i = .int .i64 k ∧ ∀ j, j < k → tok8 (at8 s j) = true) (fun i => s.size - (intOf i).toNat)
      case atStart => exact ⟨0, Nat.zero_le _, rfl, fun j hj => by omega⟩
      case round =>
        obtain ⟨k, hk, rfl, hall⟩ := hrel
        have Hall : Hid (∀ j, j < k → tok8 (at8 s j) = true) := hall
        clear hall
        by_cases hlt : k < s.size
        · cases hg0 : tok8 (at8 s k)
          · have hg : tokP (s[k].toNat : Int) = false := by rw [at8_eq s k hlt]; exact hg0
            have hfin : Hid (tokB s = false) := tokB_no hlt hg0
            clear hg0
            go_wp2_with (go_at_call 212; refine (l1tchar_any _ _ (u8_lo _) (u8_hi _)).mono ?_; rintro e w' ⟨rfl, rfl⟩)
            go_ret
            exact ⟨ret_bool hfin.out, rfl⟩
          · have hg : tokP (s[k].toNat : Int) = true := by rw [at8_eq s k hlt]; exact hg0
            have Hg : Hid (tok8 (at8 s k) = true) := hg0
            clear hg0
            go_wp2_with (go_at_call 212; refine (l1tchar_any _ _ (u8_lo _) (u8_hi _)).mono ?_; rintro e w' ⟨rfl, rfl⟩)
            go_round
            case rel => exact ⟨k + 1, by omega, by go_num, all_succ Hall.out Hg.out⟩
            case measure => simp [intOf]; omega
        · have hfin : Hid (tokB s = true) := tokB_yes (by omega) (by omega) (fun j hj => Hall.out j (by omega))
          go_wp2
          go_ret
          exact ⟨ret_bool hfin.out, rfl⟩
end Go.Proofs.YthdgeepedofleaaGreatDoor
namespace Go.Proofs.YthdgeepedofleaaGreatDoor
set_option linter.unusedVariables false
set_option linter.unusedSimpArgs false
open Go.RowKit
theorem fieldQ_no1 {x : Fd} (h : ¬ (x.1.size : Int) ≤ 40) : fieldQ x = false := by
  cases hh : fieldQ x with
  | false => rfl
  | true => exact absurd (fieldQ_iff.1 hh).1 (by omega)
theorem fieldQ_no2 {x : Fd} (h : tokB x.1 = false) : fieldQ x = false := by unfold fieldQ; simp [h]
theorem fieldQ_yes2 {x : Fd} (h1 : (x.1.size : Int) ≤ 40) (h : tokB x.1 = true) : fieldQ x = valQ x.2 := by
  have h0 : x.1.size ≤ 40 := by omega
  unfold fieldQ; simp [h, h0]
theorem valQ_no1 {v : ByteArray} (h : ¬ (v.size : Int) ≤ 190) : valQ v = false := by
  cases hh : valQ v with
  | false => rfl
  | true => exact absurd (valQ_iff.1 hh).1 (by omega)
theorem valQ_no2 {v : ByteArray} (h : plnB v = false) : valQ v = false := by unfold valQ; simp [h]
theorem valQ_yes2 {v : ByteArray} (h1 : (v.size : Int) ≤ 190) (h : plnB v = true) : valQ v = eqB (trimB v) v := by
  have h0 : v.size ≤ 190 := by omega
  unfold valQ; simp [h, h0]
set_option maxHeartbeats 1000000 in
theorem valueOk_any (s : ByteArray) (w : World) (hs : s.size ≤ maxLen) :
    Calls Tryz.prog 274 #[.string s] w fun e w' => e = .returned (.bool (valQ s)) ∧ w' = w := by
  have hs' := hs
  unfold maxLen at hs'
  by_cases h1 : (s.size : Int) ≤ 190
  · cases h2 : plnB s
    · rw [valQ_no2 h2]
      go_enter Tryz.func274, Tryz.ntmps274
      go_wp2_with (first | (go_at_call 272; refine (plainText_any _ _ hs).mono ?_; rintro e w' ⟨rfl, rfl⟩))
      go_ret
      exact ⟨rfl, rfl⟩
    · rw [valQ_yes2 h1 h2]
      go_enter Tryz.func274, Tryz.ntmps274
      go_wp2_with (first | (go_at_call 272; refine (plainText_any _ _ hs).mono ?_; rintro e w' ⟨rfl, rfl⟩) | (go_at_call 283; refine (Trim_any _ _ hs).mono ?_; rintro e w' ⟨rfl, rfl⟩))
      go_ret
      exact ⟨rfl, rfl⟩
  · rw [valQ_no1 h1]
    go_enter Tryz.func274, Tryz.ntmps274
    go_wp2
    go_ret
    exact ⟨rfl, rfl⟩
set_option maxHeartbeats 1000000 in
theorem FieldOk_any (d s : ByteArray) (w : World) (hd : d.size ≤ maxLen) (hs : s.size ≤ maxLen) :
    Calls Tryz.prog 238 #[.agg #[.string d, .string s]] w fun e w' => e = .returned (.bool (fieldQ (d, s))) ∧ Below w.heap.size w w' := by
  have hd' := hd
  unfold maxLen at hd'
  have HB := hideB2 (below_a1 w (.cells #[.string d, .string s] 88))
  by_cases h1 : (d.size : Int) ≤ 40
  · cases h2 : tokB d
    · rw [fieldQ_no2 (x := (d, s)) h2]
      go_enter Tryz.func238, Tryz.ntmps238
      go_wp2_with (first | (go_at_call 273; refine (Token_any _ _ hd).mono ?_; rintro e w' ⟨rfl, rfl⟩))
      go_ret
      exact ⟨rfl, HB.out⟩
    · rw [fieldQ_yes2 (x := (d, s)) h1 h2]
      generalize hv : valQ s = q
      have HV := hideB2 hv
      clear hv
      go_enter Tryz.func238, Tryz.ntmps238
      go_wp2_with (first | (go_at_call 273; refine (Token_any _ _ hd).mono ?_; rintro e w' ⟨rfl, rfl⟩) | (go_at_call 274; refine (valueOk_any _ _ hs).mono ?_; rintro e w' ⟨rfl, rfl⟩; rw [HV.out]))
      go_ret
      exact ⟨rfl, HB.out⟩
  · rw [fieldQ_no1 (x := (d, s)) h1]
    go_enter Tryz.func238, Tryz.ntmps238
    go_wp2
    go_ret
    exact ⟨rfl, HB.out⟩
set_option maxHeartbeats 1000000 in
theorem sFieldOk_any (d s : ByteArray) (w : World) (hd : d.size ≤ maxLen) (hs : s.size ≤ maxLen) :
    Calls Tryz.prog 172 #[.agg #[.string d, .string s]] w fun e w' => e = .returned (.bool (fieldQ (d, s))) ∧ Below w.heap.size w w' := by
  have hd' := hd
  have hs' := hs
  unfold maxLen at hd' hs'
  have HB := hideB2 (below_a1 w (.cells #[.string d, .string s] 88))
  by_cases h1 : (d.size : Int) ≤ 40
  · cases h2 : tokB d
    · skip
      rw [fieldQ_no2 (x := (d, s)) h2]
      go_enter Tryz.func172, Tryz.ntmps172
      go_wp2
      refine wp_region_quiet_lit ?_ ?_ ?_
      · kernel_rfl
      · kernel_rfl
      · repeat (go_big_quiet_step ((first | (go_at_call 173; exact Calls.quiet_of_same (sToken_any _ _ hd)) | (go_at_call 174; exact Calls.quiet_of_same (l5plain_any _ _ hs)) | (go_at_call 203; exact Calls.quiet_of_same (sTrim_any _ _ hs)))))
        refine wpQuiet_nil ?_
        rintro _ ⟨nq, rfl⟩
        go_wp2
        go_ret
        exact ⟨rfl, below_drewN HB.out _⟩
    · rw [fieldQ_yes2 (x := (d, s)) h1 h2]
      by_cases h3 : (s.size : Int) ≤ 190
      · cases h4 : plnB s
        · skip
          rw [show valQ (d, s).2 = false from valQ_no2 h4]
          go_enter Tryz.func172, Tryz.ntmps172
          go_wp2
          refine wp_region_quiet_lit ?_ ?_ ?_
          · kernel_rfl
          · kernel_rfl
          · repeat (go_big_quiet_step ((first | (go_at_call 173; exact Calls.quiet_of_same (sToken_any _ _ hd)) | (go_at_call 174; exact Calls.quiet_of_same (l5plain_any _ _ hs)) | (go_at_call 203; exact Calls.quiet_of_same (sTrim_any _ _ hs)))))
            refine wpQuiet_nil ?_
            rintro _ ⟨nq, rfl⟩
            go_wp2
            go_ret
            exact ⟨rfl, below_drewN HB.out _⟩
        · skip
          rw [show valQ (d, s).2 = eqB (trimB s) s from valQ_yes2 h3 h4]
          go_enter Tryz.func172, Tryz.ntmps172
          go_wp2
          refine wp_region_quiet_lit ?_ ?_ ?_
          · kernel_rfl
          · kernel_rfl
          · repeat (go_big_quiet_step ((first | (go_at_call 173; exact Calls.quiet_of_same (sToken_any _ _ hd)) | (go_at_call 174; exact Calls.quiet_of_same (l5plain_any _ _ hs)) | (go_at_call 203; exact Calls.quiet_of_same (sTrim_any _ _ hs)))))
            refine wpQuiet_nil ?_
            rintro _ ⟨nq, rfl⟩
            go_wp2
            go_ret
            exact ⟨rfl, below_drewN HB.out _⟩
      · have c3 : decide ((s.size : Int) ≤ 190) = false := decide_eq_false h3
        rw [show valQ (d, s).2 = false from valQ_no1 h3]
        go_enter Tryz.func172, Tryz.ntmps172
        go_wp2
        refine wp_region_quiet_lit ?_ ?_ ?_
        · kernel_rfl
        · kernel_rfl
        · repeat (go_big_quiet_step ((first | (go_at_call 173; exact Calls.quiet_of_same (sToken_any _ _ hd)) | (go_at_call 174; exact Calls.quiet_of_same (l5plain_any _ _ hs)) | (go_at_call 203; exact Calls.quiet_of_same (sTrim_any _ _ hs)))))
          refine wpQuiet_nil ?_
          rintro _ ⟨nq, rfl⟩
          go_wp2
          go_ret
          exact ⟨rfl, below_drewN HB.out _⟩
  · have c3 : decide ((d.size : Int) ≤ 40) = false := decide_eq_false h1
    rw [fieldQ_no1 (x := (d, s)) h1]
    go_enter Tryz.func172, Tryz.ntmps172
    go_wp2
    refine wp_region_quiet_lit ?_ ?_ ?_
    · kernel_rfl
    · kernel_rfl
    · repeat (go_big_quiet_step ((first | (go_at_call 173; exact Calls.quiet_of_same (sToken_any _ _ hd)) | (go_at_call 174; exact Calls.quiet_of_same (l5plain_any _ _ hs)) | (go_at_call 203; exact Calls.quiet_of_same (sTrim_any _ _ hs)))))
      refine wpQuiet_nil ?_
      rintro _ ⟨nq, rfl⟩
      go_wp2
      go_ret
      exact ⟨rfl, below_drewN HB.out _⟩
end Go.Proofs.YthdgeepedofleaaGreatDoor
namespace Go.Proofs.YthdgeepedofleaaGreatDoor
set_option linter.unusedVariables false
set_option linter.unusedSimpArgs false
open Go.RowKit
set_option maxHeartbeats 2000000 in
theorem FieldsOk_any (v : Value) (l : List Fd) (w : World) (hv : SlF w v l) (hl : l.length ≤ 1048576) (ht : totF l ≤ 1099511627776) :
    Calls Tryz.prog 217 #[v] w fun e w' => e = .returned (.bool (fieldsQ l)) ∧ Below w.heap.size w w' := by
  obtain ⟨a, c0, rfl⟩ := hv.form
  have HV := hideB2 hv
  clear hv
  generalize hQ : fieldsQ l = R
  have HQ := hideB2 hQ
  clear hQ
  generalize hn : l.length = n at *
  have HN := hideB2 hn
  clear hn
  by_cases h0 : n ≤ 20
  · go_enter Tryz.func217, Tryz.ntmps217
    go_wp2
    go_loopw [10] (fun i wr => ∃ k : Nat, k ≤ n ∧ i = .int .i64 k ∧ (∀ j, j < k → fieldQ (fdAt l j) = true) ∧ Below w.heap.size w wr) (fun i _ => n - (intOf i).toNat)
    case atStart => exact ⟨0, Nat.zero_le _, rfl, fun j hj => absurd hj (by omega), Below.refl _ _⟩
    case round =>
      obtain ⟨k, hk, rfl, hall, hb⟩ := hrel
      by_cases hlt : k < n
      · obtain ⟨b, rfl, hr⟩ := HV.out.row (by rw [HN.out]; omega)
        have p0 := (hr.keep hb).dat k (by rw [HN.out]; exact hlt)
        have p1 := (hr.keep hb).saf k (by rw [HN.out]; exact hlt)
        have hat := totF_at l k (by rw [HN.out]; exact hlt)
        have HBAD := hideB2 (fun h => fieldsQ_bad (l := l) (k := k) (by rw [HN.out]; exact hlt) h)
        have HALL := hideB2 hall
        have HBW := hideB2 hb
        clear hr hall hb
        generalize hx : fdAt l k = x at *
        have HX := hideB2 hx
        clear hx
        obtain ⟨d, s⟩ := x
        simp only at p0 p1 hat
        have hds : d.size ≤ maxLen ∧ s.size ≤ maxLen := by simp only [szF] at hat; unfold maxLen; omega
        have HDS := hideB2 hds
        clear hat hds
        cases hq : fieldQ (d, s)
        · have HF := hideB2 (show false = R by rw [← HQ.out]; exact (HBAD.out hq).symm)
          have HQ2 := hideB2 hq
          clear hq HBAD
          go_wp2_with (go_at_call 238; refine (FieldOk_any d s _ HDS.out.1 HDS.out.2).mono ?_; rintro e w2 ⟨rfl, hb2⟩; rw [HQ2.out])
          go_ret
          exact ⟨ret_bool HF.out.symm, below_then HBW.out (below_then (below_a1 wr _) hb2)⟩
        · have HQ2 := hideB2 hq
          clear hq HBAD
          go_wp2_with (go_at_call 238; refine (FieldOk_any d s _ HDS.out.1 HDS.out.2).mono ?_; rintro e w2 ⟨rfl, hb2⟩; rw [HQ2.out])
          refine ⟨⟨k + 1, by omega, by go_num, fun j hj => ?_, below_then HBW.out (below_then (below_a1 wr _) hb2)⟩, by simp [intOf]; omega⟩
          by_cases e : j = k
          · subst e; rw [HX.out]; exact HQ2.out
          · exact HALL.out j (by omega)
      · obtain rfl : k = n := by omega
        have HF := hideB2 (show true = R by rw [← HQ.out]; exact (fieldsQ_all (by rw [HN.out]; exact h0) (fun j hj => hall j (by rw [HN.out] at hj; exact hj))).symm)
        clear hall
        go_wp2
        go_ret
        exact ⟨ret_bool HF.out.symm, hb⟩
  · have HF := hideB2 (show false = R by
      rw [← HQ.out]
      cases hh : fieldsQ l with
      | false => rfl
      | true => have := (fieldsQ_iff.1 hh).1; rw [HN.out] at this; exact absurd this h0)
    have h1 : (20 : Int) < (n : Int) := by omega
    go_enter Tryz.func217, Tryz.ntmps217
    go_wp2
    go_ret
    exact ⟨ret_bool HF.out.symm, Below.refl _ _⟩
set_option maxHeartbeats 2000000 in
theorem sFieldsOk_any (v : Value) (l : List Fd) (w : World) (hv : SlF w v l) (hl : l.length ≤ 1048576) (ht : totF l ≤ 1099511627776) :
    Calls Tryz.prog 130 #[v] w fun e w' => e = .returned (.bool (fieldsQ l)) ∧ Below w.heap.size w w' := by
  obtain ⟨a, c0, rfl⟩ := hv.form
  have HV := hideB2 hv
  clear hv
  generalize hQ : fieldsQ l = R
  have HQ := hideB2 hQ
  clear hQ
  generalize hn : l.length = n at *
  have HN := hideB2 hn
  clear hn
  by_cases h0 : n ≤ 20
  · go_enter Tryz.func130, Tryz.ntmps130
    go_wp2
    go_loopw [3] (fun i wr => ∃ k : Nat, k ≤ n ∧ i = .int .i64 k ∧ (∀ j, j < k → fieldQ (fdAt l j) = true) ∧ Below w.heap.size w wr) (fun i _ => n - (intOf i).toNat)
    case atStart => exact ⟨0, Nat.zero_le _, rfl, fun j hj => absurd hj (by omega), Below.refl _ _⟩
    case round =>
      obtain ⟨k, hk, rfl, hall, hb⟩ := hrel
      by_cases hlt : k < n
      · obtain ⟨b, rfl, hr⟩ := HV.out.row (by rw [HN.out]; omega)
        have p0 := (hr.keep hb).dat k (by rw [HN.out]; exact hlt)
        have p1 := (hr.keep hb).saf k (by rw [HN.out]; exact hlt)
        have hat := totF_at l k (by rw [HN.out]; exact hlt)
        have HBAD := hideB2 (fun h => fieldsQ_bad (l := l) (k := k) (by rw [HN.out]; exact hlt) h)
        have HALL := hideB2 hall
        have HBW := hideB2 hb
        clear hr hall hb
        generalize hx : fdAt l k = x at *
        have HX := hideB2 hx
        clear hx
        obtain ⟨d, s⟩ := x
        simp only at p0 p1 hat
        have hds : d.size ≤ maxLen ∧ s.size ≤ maxLen := by simp only [szF] at hat; unfold maxLen; omega
        have HDS := hideB2 hds
        clear hat hds
        cases hq : fieldQ (d, s)
        · have HF := hideB2 (show false = R by rw [← HQ.out]; exact (HBAD.out hq).symm)
          have HQ2 := hideB2 hq
          clear hq HBAD
          go_wp2_with (go_at_call 172; refine (sFieldOk_any d s _ HDS.out.1 HDS.out.2).mono ?_; rintro e w2 ⟨rfl, hb2⟩; rw [HQ2.out])
          go_ret
          exact ⟨ret_bool HF.out.symm, below_then HBW.out hb2⟩
        · have HQ2 := hideB2 hq
          clear hq HBAD
          go_wp2_with (go_at_call 172; refine (sFieldOk_any d s _ HDS.out.1 HDS.out.2).mono ?_; rintro e w2 ⟨rfl, hb2⟩; rw [HQ2.out])
          refine ⟨⟨k + 1, by omega, by go_num, fun j hj => ?_, below_then HBW.out hb2⟩, by simp [intOf]; omega⟩
          by_cases e : j = k
          · subst e; rw [HX.out]; exact HQ2.out
          · exact HALL.out j (by omega)
      · obtain rfl : k = n := by omega
        have HF := hideB2 (show true = R by rw [← HQ.out]; exact (fieldsQ_all (by rw [HN.out]; exact h0) (fun j hj => hall j (by rw [HN.out] at hj; exact hj))).symm)
        clear hall
        go_wp2
        go_ret
        exact ⟨ret_bool HF.out.symm, hb⟩
  · have HF := hideB2 (show false = R by
      rw [← HQ.out]
      cases hh : fieldsQ l with
      | false => rfl
      | true => have := (fieldsQ_iff.1 hh).1; rw [HN.out] at this; exact absurd this h0)
    have h1 : (20 : Int) < (n : Int) := by omega
    go_enter Tryz.func130, Tryz.ntmps130
    go_wp2
    go_ret
    exact ⟨ret_bool HF.out.symm, Below.refl _ _⟩
/-- A field as a line. -/
def flnF (x : Fd) : ByteArray := ⟨(x.1.data.toList ++ [58, 32] ++ x.2.data.toList).toArray⟩
def ftextB (x : Fd) : ByteArray := if fieldQ x = true then flnF x else ⟨#[]⟩
theorem flnF_eq1 (d s : ByteArray) : d ++ ⟨#[58]⟩ ++ ⟨#[32]⟩ ++ s = flnF (d, s) := by
  apply bytes_ext
  simp [flnF, Go.Joins.data_append]
theorem flnF_eq2 (d s : ByteArray) : d ++ ⟨#[58, 32]⟩ ++ s = flnF (d, s) := by
  apply bytes_ext
  simp [flnF, Go.Joins.data_append]
set_option maxHeartbeats 1000000 in
theorem FieldText_any (d s : ByteArray) (w : World) (hd : d.size ≤ maxLen) (hs : s.size ≤ maxLen) :
    Calls Tryz.prog 193 #[.agg #[.string d, .string s]] w fun e w' => e = .returned (.string (ftextB (d, s))) ∧ Below w.heap.size w w' := by
  have HB := hideB2 (below_a1 w (.cells #[.string d, .string s] 88))
  have HDS := hideB2 (And.intro hd hs)
  have A1 := hideB2 (Blk.new w #[.string d, .string s] 88)
  cases hq : fieldQ (d, s)
  · have HQ2 := hideB2 hq
    have HE := hideB2 (show ftextB (d, s) = ⟨#[]⟩ by unfold ftextB; rw [hq]; rfl)
    clear hq
    go_enter Tryz.func193, Tryz.ntmps193
    go_wp2_with (go_at_call 238; refine (FieldOk_any d s _ HDS.out.1 HDS.out.2).mono ?_; rintro e w2 ⟨rfl, hb2⟩; rw [HQ2.out])
    go_ret
    exact ⟨ret_str HE.out, below_then HB.out hb2⟩
  · have HQ2 := hideB2 hq
    have HE := hideB2 (show ftextB (d, s) = flnF (d, s) by unfold ftextB; rw [hq]; rfl)
    obtain ⟨z1, z2⟩ := fieldQ_sizes hq
    simp only at z1 z2
    clear hq hd hs
    go_enter Tryz.func193, Tryz.ntmps193
    go_wp2_with (go_at_call 238; refine (FieldOk_any d s _ HDS.out.1 HDS.out.2).mono ?_; rintro e w2 ⟨rfl, hb2⟩; rw [HQ2.out]; obtain ⟨p0, p1⟩ := (A1.out.later hb2).c2)
    go_ret
    exact ⟨ret_str (by rw [HE.out, ← flnF_eq1]), below_then HB.out hb2⟩
set_option maxHeartbeats 1000000 in
theorem sFieldText_any (d s : ByteArray) (w : World) (hd : d.size ≤ maxLen) (hs : s.size ≤ maxLen) :
    Calls Tryz.prog 134 #[.agg #[.string d, .string s]] w fun e w' => e = .returned (.string (ftextB (d, s))) ∧ Below w.heap.size w w' := by
  have HB := hideB2 (below_a1 w (.cells #[.string d, .string s] 88))
  have HDS := hideB2 (And.intro hd hs)
  have A1 := hideB2 (Blk.new w #[.string d, .string s] 88)
  cases hq : fieldQ (d, s)
  · have HQ2 := hideB2 hq
    have HE := hideB2 (show ftextB (d, s) = ⟨#[]⟩ by unfold ftextB; rw [hq]; rfl)
    clear hq
    go_enter Tryz.func134, Tryz.ntmps134
    go_wp2_with (go_at_call 172; refine (sFieldOk_any d s _ HDS.out.1 HDS.out.2).mono ?_; rintro e w2 ⟨rfl, hb2⟩; rw [HQ2.out])
    go_ret
    exact ⟨ret_str HE.out, below_then HB.out hb2⟩
  · have HQ2 := hideB2 hq
    have HE := hideB2 (show ftextB (d, s) = flnF (d, s) by unfold ftextB; rw [hq]; rfl)
    obtain ⟨z1, z2⟩ := fieldQ_sizes hq
    simp only at z1 z2
    clear hq hd hs
    go_enter Tryz.func134, Tryz.ntmps134
    go_wp2_with (go_at_call 172; refine (sFieldOk_any d s _ HDS.out.1 HDS.out.2).mono ?_; rintro e w2 ⟨rfl, hb2⟩; rw [HQ2.out]; obtain ⟨p0, p1⟩ := (A1.out.later hb2).c2)
    go_ret
    exact ⟨ret_str (by rw [HE.out, ← flnF_eq2]), below_then HB.out hb2⟩
end Go.Proofs.YthdgeepedofleaaGreatDoor
namespace Go.Proofs.YthdgeepedofleaaGreatDoor
set_option linter.unusedVariables false
set_option linter.unusedSimpArgs false
open Go.RowKit

def decB (u : Nat) : ByteArray := ⟨(Lib.decDigits u).toArray⟩
theorem decB_list (u : Nat) : (decB u).data.toList = Lib.decDigits u := rfl
def valL (l : List UInt8) : Nat := l.foldl (fun n b => n * 10 + (b.toNat - 48)) 0
theorem valL_snoc (l : List UInt8) (b : UInt8) : valL (l ++ [b]) = valL l * 10 + (b.toNat - 48) := by simp [valL]
def allDig (l : List UInt8) : Bool := l.all dig8
theorem dig8_iff (b : UInt8) : dig8 b = true ↔ 48 ≤ b.toNat ∧ b.toNat ≤ 57 := by
  unfold dig8 digP
  simp
  omega
theorem dig8_no (b : UInt8) (h : dig8 b = false) : b.toNat < 48 ∨ 57 < b.toNat := by
  have : ¬ (48 ≤ b.toNat ∧ b.toNat ≤ 57) := fun hh => by rw [(dig8_iff b).2 hh] at h; cases h
  omega
def rdec (s : ByteArray) : Option Nat := if 0 < s.size ∧ s.size ≤ 15 ∧ allDig s.data.toList = true ∧ Lib.decDigits (valL s.data.toList) = s.data.toList then some (valL s.data.toList) else none

theorem snoc_ind {α : Type} {p : List α → Prop} (h0 : p []) (h1 : ∀ l a, p l → p (l ++ [a])) : ∀ l, p l := by
  intro l
  have : ∀ r : List α, p r.reverse := by
    intro r
    induction r with
    | nil => exact h0
    | cons a r ih => rw [List.reverse_cons]; exact h1 _ _ ih
  simpa using this l.reverse

theorem valL_lt (l : List UInt8) (h : allDig l = true) : valL l < 10 ^ l.length := by
  revert h
  refine snoc_ind (p := fun l => allDig l = true → valL l < 10 ^ l.length) ?_ ?_ l
  · intro _; simp [valL]
  · intro q b ih h
    have hq : allDig q = true := by unfold allDig at h ⊢; rw [List.all_append] at h; simp at h; simpa using h.1
    have hb : dig8 b = true := by unfold allDig at h; rw [List.all_append] at h; simp at h; exact h.2
    have := ih hq
    have hb' := (dig8_iff b).1 hb
    rw [valL_snoc, List.length_append, List.length_singleton, Nat.pow_succ]
    omega
theorem valL_ge (l : List UInt8) (h : allDig l = true) (hl : l ≠ []) (hz : l.head? ≠ some 48) : 10 ^ (l.length - 1) ≤ valL l := by
  revert h hl hz
  refine snoc_ind (p := fun l => allDig l = true → l ≠ [] → l.head? ≠ some 48 → 10 ^ (l.length - 1) ≤ valL l) ?_ ?_ l
  · intro _ h; exact absurd rfl h
  · intro q b ih h _ hz
    have hq : allDig q = true := by unfold allDig at h ⊢; rw [List.all_append] at h; simp at h; simpa using h.1
    have hb : dig8 b = true := by unfold allDig at h; rw [List.all_append] at h; simp at h; exact h.2
    have hb' := (dig8_iff b).1 hb
    rw [valL_snoc, List.length_append, List.length_singleton]
    by_cases e : q = []
    · subst e
      have hne : b.toNat ≠ 48 := by
        intro hh
        apply hz
        have : b = 48 := UInt8.toNat_inj.1 hh
        rw [this]; rfl
      simp [valL]
      omega
    · have hz' : q.head? ≠ some 48 := by
        intro hh; apply hz; rw [List.head?_append, hh]; rfl
      have := ih hq e hz'
      have hlen : q.length + 1 - 1 = (q.length - 1) + 1 := by have := List.length_pos_iff.2 e; omega
      rw [hlen, Nat.pow_succ]
      omega
theorem decDigits_step (u : Nat) (h : ¬ u < 10) : Lib.decDigits u = Lib.decDigits (u / 10) ++ [UInt8.ofNat (48 + u % 10)] := by
  rw [Lib.decDigits, dif_neg h]
theorem ofNat_dig (b : UInt8) (h : 48 ≤ b.toNat) : UInt8.ofNat (48 + (b.toNat - 48)) = b := by
  rw [show 48 + (b.toNat - 48) = b.toNat from by omega]; simp
theorem decDigits_val (l : List UInt8) (h : allDig l = true) (hl : l ≠ []) (hz : l.head? ≠ some 48) : Lib.decDigits (valL l) = l := by
  revert h hl hz
  refine snoc_ind (p := fun l => allDig l = true → l ≠ [] → l.head? ≠ some 48 → Lib.decDigits (valL l) = l) ?_ ?_ l
  · intro _ h; exact absurd rfl h
  · intro q b ih h _ hz
    have hq : allDig q = true := by unfold allDig at h ⊢; rw [List.all_append] at h; simp at h; simpa using h.1
    have hb : dig8 b = true := by unfold allDig at h; rw [List.all_append] at h; simp at h; exact h.2
    have hb' := (dig8_iff b).1 hb
    rw [valL_snoc]
    by_cases e : q = []
    · subst e
      have : valL [] * 10 + (b.toNat - 48) = b.toNat - 48 := by simp [valL]
      rw [this, Lib.decDigits, dif_pos (by omega), ofNat_dig b hb'.1]; rfl
    · have hz' : q.head? ≠ some 48 := by
        intro hh; apply hz; rw [List.head?_append, hh]; rfl
      have h1 := valL_ge q hq e hz'
      have h2 : 1 ≤ 10 ^ (q.length - 1) := Nat.one_le_pow _ _ (by decide)
      rw [decDigits_step _ (by omega)]
      have e1 : (valL q * 10 + (b.toNat - 48)) / 10 = valL q := by omega
      have e2 : (valL q * 10 + (b.toNat - 48)) % 10 = b.toNat - 48 := by omega
      rw [e1, e2, ih hq e hz', ofNat_dig b hb'.1]
theorem decDigits_ne_nil (u : Nat) : Lib.decDigits u ≠ [] := by
  by_cases h : u < 10
  · rw [Lib.decDigits, dif_pos h]; simp
  · rw [decDigits_step u h]; simp
theorem decDigits_head (u : Nat) (h : (Lib.decDigits u).head? = some 48) : u = 0 := by
  induction u using Nat.strongRecOn with
  | _ u ih =>
    by_cases hu : u < 10
    · rw [Lib.decDigits, dif_pos hu] at h
      have h' : UInt8.ofNat (48 + u) = 48 := Option.some.inj h
      have : (UInt8.ofNat (48 + u)).toNat = (48 : UInt8).toNat := by rw [h']
      rw [UInt8.toNat_ofNat'] at this
      have e : (48 : UInt8).toNat = 48 := rfl
      omega
    · rw [decDigits_step u hu, List.head?_append] at h
      have hne := decDigits_ne_nil (u / 10)
      have : (Lib.decDigits (u / 10)).head? = some 48 := by
        cases hq : Lib.decDigits (u / 10) with
        | nil => exact absurd hq hne
        | cons a r => rw [hq] at h; simpa using h
      have := ih (u / 10) (by omega) this
      omega
theorem allDig_dec (u : Nat) : allDig (Lib.decDigits u) = true := by
  induction u using Nat.strongRecOn with
  | _ u ih =>
    have one : ∀ d, d < 10 → dig8 (UInt8.ofNat (48 + d)) = true := by
      intro d hd
      rw [dig8_iff]
      simp
      omega
    by_cases hu : u < 10
    · rw [Lib.decDigits, dif_pos hu]
      show (dig8 (UInt8.ofNat (48 + u)) && true) = true
      rw [one u hu]; rfl
    · rw [decDigits_step u hu]
      unfold allDig
      rw [List.all_append]
      have := ih (u / 10) (by omega)
      unfold allDig at this
      rw [this]
      show (true && (dig8 (UInt8.ofNat (48 + u % 10)) && true)) = true
      rw [one (u % 10) (by omega)]; rfl
theorem valL_dec (u : Nat) : valL (Lib.decDigits u) = u := by
  induction u using Nat.strongRecOn with
  | _ u ih =>
    have one : ∀ d, d < 10 → (UInt8.ofNat (48 + d)).toNat - 48 = d := by
      intro d hd; simp; omega
    by_cases hu : u < 10
    · rw [Lib.decDigits, dif_pos hu]
      have := one u hu
      simp [valL] at this ⊢
      omega
    · rw [decDigits_step u hu, valL_snoc, ih (u / 10) (by omega), one (u % 10) (by omega)]
      omega
theorem decDigits_len (u : Nat) (h : u ≤ 999999999999999) : (Lib.decDigits u).length ≤ 15 := by
  rw [Lib.decDigits_length]
  rcases Nat.lt_or_ge 15 (Lib.nDigits u) with h1 | h1
  · exfalso
    have hl := valL_ge (Lib.decDigits u) (allDig_dec u) (decDigits_ne_nil u) (by
      intro hh
      have := decDigits_head u hh
      subst this
      rw [Lib.nDigits_small (by omega)] at h1
      omega)
    rw [valL_dec, Lib.decDigits_length] at hl
    have h2 : 10 ^ 15 ≤ 10 ^ (Lib.nDigits u - 1) := Nat.pow_le_pow_right (by decide) (by omega)
    have h3 : (10 : Nat) ^ 15 = 1000000000000000 := by decide
    omega
  · exact h1

/-! What the loops of ReadDec come to. -/
theorem allDig_take_succ (s : ByteArray) (k : Nat) (hk : k < s.size) : s.data.toList.take (k + 1) = s.data.toList.take k ++ [at8 s k] := by
  have hl : k < s.data.toList.length := by rw [len_data]; exact hk
  rw [List.take_succ_eq_append_getElem hl]
  simp [at8, List.getD, List.getElem?_eq_getElem hl]
theorem allDig_snoc (l : List UInt8) (b : UInt8) (h : allDig l = true) (hb : dig8 b = true) : allDig (l ++ [b]) = true := by
  unfold allDig at *
  rw [List.all_append, h]
  simp [hb]
theorem allDig_no (s : ByteArray) (k : Nat) (hk : k < s.size) (h : dig8 (at8 s k) = false) : allDig s.data.toList = false := by
  have hl : k < s.data.toList.length := by rw [len_data]; exact hk
  unfold allDig
  rw [List.all_eq_false]
  refine ⟨s.data.toList[k], List.getElem_mem hl, ?_⟩
  simp [at8, List.getD, List.getElem?_eq_getElem hl] at h
  simp [h]
theorem rdec_nodig (s : ByteArray) (k : Nat) (hk : k < s.size) (h : dig8 (at8 s k) = false) : rdec s = none := by
  unfold rdec
  rw [if_neg]
  rintro ⟨_, _, h3, _⟩
  rw [allDig_no s k hk h] at h3
  cases h3
theorem rdec_size (s : ByteArray) (h : s.size = 0 ∨ 15 < s.size) : rdec s = none := by
  unfold rdec
  rw [if_neg]
  rintro ⟨h1, h2, _⟩
  omega
theorem rdec_ne (s : ByteArray) (h : Lib.decDigits (valL s.data.toList) ≠ s.data.toList) : rdec s = none := by
  unfold rdec
  rw [if_neg]
  rintro ⟨_, _, _, h4⟩
  exact h h4
theorem rdec_yes (s : ByteArray) (h0 : 0 < s.size) (h1 : s.size ≤ 15) (h2 : allDig s.data.toList = true) (h3 : Lib.decDigits (valL s.data.toList) = s.data.toList) : rdec s = some (valL s.data.toList) := by
  unfold rdec
  rw [if_pos ⟨h0, h1, h2, h3⟩]
theorem head_at8 (s : ByteArray) (h : 0 < s.size) : s.data.toList.head? = some (at8 s 0) := by
  have hl : 0 < s.data.toList.length := by rw [len_data]; exact h
  rw [List.head?_eq_getElem?]
  simp [at8, List.getD, List.getElem?_eq_getElem hl]
/-- A 0 ahead of other digits. -/
theorem rdec_zero (s : ByteArray) (h : 0 < s.size) (h0 : (at8 s 0).toNat = 48) (hne : s.data.toList ≠ [48]) : rdec s = none := by
  apply rdec_ne
  intro hh
  have h1 := head_at8 s h
  have : at8 s 0 = 48 := UInt8.toNat_inj.1 h0
  rw [this, ← hh] at h1
  have hz := decDigits_head _ h1
  rw [hz] at hh
  apply hne
  rw [← hh, Lib.decDigits, dif_pos (by omega)]
  rfl
/-- Behind the last round. -/
theorem rdec_end (s : ByteArray) (h : 0 < s.size) (hd : allDig s.data.toList = true) (hz : (at8 s 0).toNat ≠ 48 ∨ s.data.toList = [48]) (hm : valL s.data.toList ≤ 999999999999999) : rdec s = some (valL s.data.toList) := by
  have hne : s.data.toList ≠ [] := by
    intro hh; have := len_data s; rw [hh] at this; simp at this; omega
  rcases hz with hz | hz
  · have hh : s.data.toList.head? ≠ some 48 := by
      rw [head_at8 s h]; intro e; apply hz; injection e with e; rw [e]; rfl
    have h1 := valL_ge _ hd hne hh
    refine rdec_yes s h ?_ hd (decDigits_val _ hd hne hh)
    rcases Nat.lt_or_ge 15 s.size with h2 | h2
    · exfalso
      have h3 : 10 ^ 15 ≤ 10 ^ (s.data.toList.length - 1) := Nat.pow_le_pow_right (by decide) (by rw [len_data]; omega)
      have h4 : (10 : Nat) ^ 15 = 1000000000000000 := by decide
      omega
    · exact h2
  · have hs : s.size = 1 := by rw [← len_data, hz]; rfl
    refine rdec_yes s h (by omega) hd ?_
    rw [hz]
    have : valL [48] = 0 := by decide
    rw [this, Lib.decDigits, dif_pos (by omega)]
    rfl
theorem allDig_take (l : List UInt8) (k : Nat) (h : allDig l = true) : allDig (l.take k) = true := by
  unfold allDig at *
  rw [List.all_eq_true] at *
  intro x hx
  exact h x (List.mem_of_mem_take hx)
/-- A value that has passed the bound. -/
theorem rdec_big (s : ByteArray) (k : Nat) (hk : k ≤ s.size) (hd : allDig (s.data.toList.take k) = true) (hm : 999999999999999 < valL (s.data.toList.take k)) : rdec s = none := by
  apply rdec_size
  right
  rcases Nat.lt_or_ge 15 s.size with h2 | h2
  · exact h2
  · exfalso
    have h1 := valL_lt _ hd
    have h3 : 10 ^ (s.data.toList.take k).length ≤ 10 ^ 15 := Nat.pow_le_pow_right (by decide) (by simp; omega)
    have h4 : (10 : Nat) ^ 15 = 1000000000000000 := by decide
    omega
end Go.Proofs.YthdgeepedofleaaGreatDoor
namespace Go.Proofs.YthdgeepedofleaaGreatDoor
set_option linter.unusedVariables false
set_option linter.unusedSimpArgs false
open Go.RowKit

theorem below_call_alloc {w w1 : World} {o : Obj} (hb : Below w.drew.heap.size w.drew w1) : Below w.heap.size w (w1.alloc o) := by
  have h : Below w.heap.size w w1 := (Below.drew (Below.refl _ w)).trans (hb.mono (by simp))
  exact h.alloc h.size _
theorem below_alloc_call {w w1 : World} {o : Obj} (hb : Below (w.alloc o).drew.heap.size (w.alloc o).drew w1) : Below w.heap.size w w1 :=
  (((Below.refl _ w).alloc (Nat.le_refl _) o).drew).trans (hb.mono (by simp))
/-- One byte's text. -/
theorem conv_one {P : Program} (src e dst : TypeId) (hs : P.underlying src = some (.slice e)) (he : P.underlying e = some (.int .u8)) (hd : P.underlying dst = some .string) (w : World) (b cap : Nat) (x : Int) (hc : w.cell? ⟨b, 0, none⟩ = some (.int .u8 x)) :
    (convert src dst (.slice (some ⟨b, 0, none⟩) 1 cap)).run P w = .ok (.string ⟨#[UInt8.ofNat x.toNat]⟩) w :=
  run_convert_bytes_arg (P := P) w src e hs he b 0 1 cap [x] rfl (fun i hi => by obtain rfl : i = 0 := by omega
                                                                                 exact hc) dst hd
set_option maxHeartbeats 1000000 in
theorem sDecText_nat (u : Nat) (w : World) (hu : u ≤ 999999999999999) :
    Calls Tryz.prog 93 #[.int .i64 (u : Int)] w fun e w' => e = .returned (.string (decB u)) ∧ Below w.heap.size w w' := by
  induction u using Nat.strongRecOn generalizing w with
  | _ u ih =>
    have h1 : ¬ (u : Int) < 0 := by omega
    have h2 : ¬ (999999999999999 : Int) < (u : Int) := by omega
    by_cases h10 : (u : Int) < 10
    · have hfin : Hid (decB u = ⟨#[UInt8.ofNat (48 + u)]⟩) := by
        show decB u = _
        unfold decB
        rw [Lib.decDigits, dif_pos (by omega)]
      have kb := fun (w : World) (b cap : Nat) (x : Int) => conv_one (P := Tryz.prog) 22 5 9 Tryz.underlying22 Tryz.underlying5 Tryz.underlying9 w b cap x
      clear ih
      go_enter Tryz.func93, Tryz.ntmps93
      go_wp2
      go_ret
      exact ⟨ret_str (by rw [hfin.out]; simp), (Below.refl _ _).alloc (Nat.le_refl _) _⟩
    · have kb := fun (w : World) (b cap : Nat) (x : Int) => conv_one (P := Tryz.prog) 22 5 9 Tryz.underlying22 Tryz.underlying5 Tryz.underlying9 w b cap x
      obtain ⟨q, r, hqr, hr, hq⟩ : ∃ q r : Nat, u = 10 * q + r ∧ r < 10 ∧ 1 ≤ q := ⟨u / 10, u % 10, by omega, by omega, by omega⟩
      have Hih : Hid (∀ (w : World), Calls Tryz.prog 93 #[.int .i64 (q : Int)] w fun e w' => e = .returned (.string (decB q)) ∧ Below w.heap.size w w') := fun w => ih q (by omega) w (by omega)
      have e1 : IntKind.i64.wrap ((u : Int) / 10) = (q : Int) := by rw [IntKind.wrap_i64]; omega
      have e2 : ((u : Int)).tmod 10 = (r : Int) := by rw [Int.tmod_eq_emod_of_nonneg (by omega)]; omega
      have e3 : IntKind.i64.wrap (48 + (r : Int)) = 48 + (r : Int) := by rw [IntKind.wrap_i64]; omega
      have e4 : IntKind.u8.wrap (48 + (r : Int)) = 48 + (r : Int) := by rw [IntKind.wrap_u8]; omega
      have HQ : Hid (u = 10 * q + r) := hqr
      have hfin : Hid (decB u = decB q ++ ⟨#[UInt8.ofNat (48 + r)]⟩) := by
        apply bytes_ext
        rw [decB_list, decDigits_step u (by omega), show u / 10 = q from by omega, show u % 10 = r from by omega]
        simp [decB, ByteArray.data_append]
      have hsz : (decB q).size ≤ 15 := decDigits_len q (by omega)
      clear ih hqr
      go_enter Tryz.func93, Tryz.ntmps93
      go_wp2
      go_region_with (go_at_call 93; refine (Hih.out _).mono ?_; rintro e w1 ⟨rfl, hb⟩; obtain ⟨hcc, hff⟩ := bcell hb)
      all_goals (go_wp2; go_ret)
      all_goals refine ⟨ret_str (by rw [hfin.out]; simp), ?_⟩
      · exact below_call_alloc hb
      · exact below_alloc_call hb
      · exact below_alloc_call hb
end Go.Proofs.YthdgeepedofleaaGreatDoor
namespace Go.Proofs
open Go.Shelf
shelf_lay LaysM.n171 Nm 171 at Tryz as Tryz.laysItoa
end Go.Proofs
namespace Go.Proofs.YthdgeepedofleaaGreatDoor
set_option linter.unusedVariables false
set_option linter.unusedSimpArgs false
open Go.RowKit
def decT (n : Int) : ByteArray := if 0 ≤ n ∧ n ≤ 999999999999999 then decB n.toNat else ⟨#[]⟩
theorem below_grow (w : World) (q : Nat) (os : Array Obj) : Below w.heap.size w (Sort.grow (w.drewN q) os) :=
  ⟨rfl, rfl, rfl, by simp [Sort.grow], fun k hk => by simp [Sort.grow, Array.getElem?_append_left, hk]⟩
set_option maxHeartbeats 1000000 in
theorem sDecText_all (n : Int) (w : World) :
    Calls Tryz.prog 93 #[.int .i64 n] w fun e w' => e = .returned (.string (decT n)) ∧ Below w.heap.size w w' := by
  by_cases h : 0 ≤ n ∧ n ≤ 999999999999999
  · obtain ⟨u, rfl⟩ := Int.eq_ofNat_of_zero_le h.1
    have := sDecText_nat u w (by omega)
    unfold decT
    rw [if_pos h]
    exact this
  · have hf : Hid (decT n = ⟨#[]⟩) := by show decT n = _; unfold decT; rw [if_neg h]
    by_cases h0 : n < 0
    · clear h
      go_enter Tryz.func93, Tryz.ntmps93
      go_wp2
      go_ret
      exact ⟨ret_str hf.out, Below.refl _ _⟩
    · have h1 : (999999999999999 : Int) < n := by omega
      clear h
      go_enter Tryz.func93, Tryz.ntmps93
      go_wp2
      go_ret
      exact ⟨ret_str hf.out, Below.refl _ _⟩
set_option maxHeartbeats 1000000 in
theorem DecText_all (n : Int) (w : World) (htab : Lib.TabIs Tryz.prog w "internal/strconv.uint64pow10" .u64 Lib.pow10Tab) :
    Calls Tryz.prog 59 #[.int .i64 n] w fun e w' => e = .returned (.string (decT n)) ∧ Below w.heap.size w w' := by
  by_cases h : 0 ≤ n ∧ n ≤ 999999999999999
  · have hf : Hid (decT n = ⟨(Lib.itoa n).toArray⟩) := by
      show decT n = _
      unfold decT decB Lib.itoa
      rw [if_pos h, if_neg (by omega)]
    have h0 : ¬ n < 0 := by omega
    have h1 : ¬ (999999999999999 : Int) < n := by omega
    have hit := Any.strconv_Itoa Tryz.laysItoa n (by omega) (by omega) w htab
    clear h htab
    go_enter Tryz.func59, Tryz.ntmps59
    go_wp2_with fail
    refine hit.mono ?_
    rintro e w1 ⟨rfl, q, os, rfl⟩
    go_wp2
    go_ret
    exact ⟨ret_str hf.out, below_grow _ _ _⟩
  · have hf : Hid (decT n = ⟨#[]⟩) := by show decT n = _; unfold decT; rw [if_neg h]
    by_cases h0 : n < 0
    · clear h htab
      go_enter Tryz.func59, Tryz.ntmps59
      go_wp2
      go_ret
      exact ⟨ret_str hf.out, Below.refl _ _⟩
    · have h1 : (999999999999999 : Int) < n := by omega
      clear h htab
      go_enter Tryz.func59, Tryz.ntmps59
      go_wp2
      go_ret
      exact ⟨ret_str hf.out, Below.refl _ _⟩
end Go.Proofs.YthdgeepedofleaaGreatDoor
namespace Go.Proofs.YthdgeepedofleaaGreatDoor
set_option linter.unusedVariables false
set_option linter.unusedSimpArgs false
open Go.RowKit
def methQ (s : ByteArray) : Bool := tokB s && decide ((s.size : Int) ≤ 20)
def stQ (n : Int) : Bool := decide (200 ≤ n) && decide (n ≤ 599)
theorem within_st (n : Int) : withinB n 200 599 = stQ n := rfl
set_option maxHeartbeats 400000 in
theorem statusOk_any (n : Int) (w : World) :
    Calls Tryz.prog 271 #[.int .i64 n] w fun e w' => e = .returned (.bool (stQ n)) ∧ w' = w := by
  go_enter Tryz.func271, Tryz.ntmps271
  go_wp2_with (go_at_call 34; refine (within_any _ _ _ _).mono ?_; rintro e w' ⟨rfl, rfl⟩)
  go_ret
  exact ⟨rfl, rfl⟩
set_option maxHeartbeats 400000 in
theorem methodOk_any (s : ByteArray) (w : World) (hs : s.size ≤ maxLen) :
    Calls Tryz.prog 270 #[.string s] w fun e w' => e = .returned (.bool (methQ s)) ∧ w' = w := by
  have hs' := hs
  unfold maxLen at hs'
  cases h : tokB s
  · rw [show methQ s = false by unfold methQ; rw [h]; rfl]
    go_enter Tryz.func270, Tryz.ntmps270
    go_wp2_with (go_at_call 273; refine (Token_any _ _ hs).mono ?_; rintro e w' ⟨rfl, rfl⟩; rw [h])
    go_ret
    exact ⟨rfl, rfl⟩
  · rw [show methQ s = decide ((s.size : Int) ≤ 20) by unfold methQ; rw [h]; rfl]
    go_enter Tryz.func270, Tryz.ntmps270
    go_wp2_with (go_at_call 273; refine (Token_any _ _ hs).mono ?_; rintro e w' ⟨rfl, rfl⟩; rw [h])
    go_ret
    exact ⟨rfl, rfl⟩
end Go.Proofs.YthdgeepedofleaaGreatDoor
namespace Go.Proofs.YthdgeepedofleaaGreatDoor
set_option linter.unusedVariables false
set_option linter.unusedSimpArgs false
open Go.RowKit
def nilB : ByteArray := ⟨#[]⟩
/-- A message. -/
structure Mg where
  me : ByteArray
  ta : ByteArray
  st : Int
  re : ByteArray
  ba : Bool
  fs : List Fd
  bo : ByteArray
def mg0 : Mg := ⟨⟨#[]⟩, ⟨#[]⟩, 0, ⟨#[]⟩, false, [], ⟨#[]⟩⟩
def reqQ (m : Mg) : Bool := methQ m.me && targQ m.ta && (m.st == 0) && eqB m.re ⟨#[]⟩ && !m.ba
def bareSt (n : Int) : Bool := n == 204 || n == 304
def ansQ (m : Mg) : Bool := eqB m.ta ⟨#[]⟩ && stQ m.st && decide ((m.re.size : Int) ≤ 40) && plnB m.re
def bareQ (m : Mg) : Bool := if m.ba = true then eqB m.bo ⟨#[]⟩ else !bareSt m.st
def kindQ (m : Mg) : Bool := if eqB m.me ⟨#[]⟩ = true then ansQ m && bareQ m else reqQ m
/-- content-length, transfer-encoding, trailer. -/
def clN : ByteArray := ⟨#[99, 111, 110, 116, 101, 110, 116, 45, 108, 101, 110, 103, 116, 104]⟩
def teN : ByteArray := ⟨#[116, 114, 97, 110, 115, 102, 101, 114, 45, 101, 110, 99, 111, 100, 105, 110, 103]⟩
def trN : ByteArray := ⟨#[116, 114, 97, 105, 108, 101, 114]⟩
def clW : ByteArray := ⟨#[67, 111, 110, 116, 101, 110, 116, 45, 76, 101, 110, 103, 116, 104]⟩
def frmN (d : ByteArray) : Bool := eqB (foldB d) clN || eqB (foldB d) teN || eqB (foldB d) trN
def unfrL (l : List Fd) : List Fd := l.filter fun x => !frmN x.1
def frmL (l : List Fd) : Bool := l.any fun x => frmN x.1
theorem unfr_len {l : List Fd} : (unfrL l).length = l.length ↔ frmL l = false := by
  unfold unfrL frmL
  rw [List.length_filter_eq_length_iff, List.any_eq_false]
  constructor
  · intro h x hx; have := h x hx; simpa using this
  · intro h x hx; have := h x hx; simpa using this
/-- The first line. -/
def firstL (m : Mg) : List UInt8 := if eqB m.me ⟨#[]⟩ = true then [72, 84, 84, 80, 47, 49, 46, 49, 32] ++ (decT m.st).data.toList ++ [32] ++ m.re.data.toList else m.me.data.toList ++ [32] ++ m.ta.data.toList ++ [32, 72, 84, 84, 80, 47, 49, 46, 49]
def linesL (l : List Fd) : List UInt8 := (l.map fun x => (ftextB x).data.toList ++ [13, 10]).flatten
theorem linesL_nil : linesL [] = [] := rfl
theorem linesL_app (a b : List Fd) : linesL (a ++ b) = linesL a ++ linesL b := by simp [linesL]
theorem linesL_one (x : Fd) : linesL [x] = (ftextB x).data.toList ++ [13, 10] := by simp [linesL]
theorem linesL_next (l : List Fd) (k : Nat) (h : k < l.length) : linesL (l.take (k + 1)) = linesL (l.take k) ++ ((ftextB (fdAt l k)).data.toList ++ [13, 10]) := by
  rw [takeF_next l k h, linesL_app, linesL_one]
theorem ftextB_size {x : Fd} : (ftextB x).size ≤ 232 := by
  unfold ftextB
  split
  · rename_i h
    obtain ⟨h1, h2⟩ := fieldQ_sizes h
    show (x.1.data.toList ++ [58, 32] ++ x.2.data.toList).toArray.size ≤ _
    simp only [List.size_toArray, List.length_append, len_data, List.length_cons, List.length_nil]
    omega
  · show (0 : Nat) ≤ _; omega
theorem linesL_len (l : List Fd) : (linesL l).length ≤ l.length * 234 := by
  induction l with
  | nil => simp [linesL]
  | cons x l ih =>
    have h1 := ftextB_size (x := x)
    rw [← len_data] at h1
    rw [← List.singleton_append, linesL_app, linesL_one]
    simp only [List.length_append, List.length_cons, List.length_nil]
    omega
def tellsQ (m : Mg) : Bool := if eqB m.me ⟨#[]⟩ = true then !m.ba else !eqB m.bo ⟨#[]⟩
def lenL (m : Mg) : List UInt8 := if tellsQ m = true then clW.data.toList ++ [58, 32] ++ Lib.decDigits m.bo.size ++ [13, 10] else []
def headL (m : Mg) : List UInt8 := firstL m ++ [13, 10] ++ linesL m.fs ++ lenL m ++ [13, 10]
def headB (m : Mg) : ByteArray := ⟨(headL m).toArray⟩
def ownQ (l : List Fd) : Bool := fieldsQ l && decide (l.length < 20) && !frmL l
/-- May it be written, and read again? -/
def msgQ (m : Mg) : Bool := ownQ m.fs && decide ((m.bo.size : Int) ≤ 600) && kindQ m && decide (((headB m).size : Int) ≤ 1500)
def wheadB (m : Mg) : ByteArray := if msgQ m = true then headB m else ⟨#[]⟩
def wmsgB (m : Mg) : ByteArray := if msgQ m = true then headB m ++ m.bo else ⟨#[]⟩
theorem kindQ_req {m : Mg} (h : eqB m.me ⟨#[]⟩ = false) : kindQ m = reqQ m := by unfold kindQ; rw [h]; rfl
theorem kindQ_ans {m : Mg} (h : eqB m.me ⟨#[]⟩ = true) : kindQ m = (ansQ m && bareQ m) := by unfold kindQ; rw [if_pos h]
theorem methQ_iff {s : ByteArray} : methQ s = true ↔ tokB s = true ∧ s.size ≤ 20 := by
  unfold methQ; rw [Bool.and_eq_true, decide_eq_true_eq]; exact and_congr_right fun _ => by omega
theorem reqQ_iff {m : Mg} : reqQ m = true ↔ methQ m.me = true ∧ targQ m.ta = true ∧ m.st = 0 ∧ m.re = ⟨#[]⟩ ∧ m.ba = false := by
  unfold reqQ; simp [eqB_iff, and_assoc]
theorem stQ_iff {n : Int} : stQ n = true ↔ 200 ≤ n ∧ n ≤ 599 := by unfold stQ; simp
theorem ansQ_iff {m : Mg} : ansQ m = true ↔ m.ta = ⟨#[]⟩ ∧ stQ m.st = true ∧ m.re.size ≤ 40 ∧ plnB m.re = true := by
  unfold ansQ; rw [Bool.and_eq_true, Bool.and_eq_true, Bool.and_eq_true, decide_eq_true_eq, eqB_iff, and_assoc, and_assoc]
  constructor
  · rintro ⟨a, b, c, d⟩; exact ⟨a, b, by omega, d⟩
  · rintro ⟨a, b, c, d⟩; exact ⟨a, b, by omega, d⟩
theorem ownQ_iff {l : List Fd} : ownQ l = true ↔ fieldsQ l = true ∧ l.length < 20 ∧ frmL l = false := by
  unfold ownQ; simp [and_assoc]
theorem msgQ_iff {m : Mg} : msgQ m = true ↔ ownQ m.fs = true ∧ m.bo.size ≤ 600 ∧ kindQ m = true ∧ (headB m).size ≤ 1500 := by
  unfold msgQ; rw [Bool.and_eq_true, Bool.and_eq_true, Bool.and_eq_true, decide_eq_true_eq, decide_eq_true_eq, and_assoc, and_assoc]
  constructor
  · rintro ⟨a, b, c, d⟩; exact ⟨a, by omega, c, by omega⟩
  · rintro ⟨a, b, c, d⟩; exact ⟨a, by omega, c, by omega⟩
theorem headB_size (m : Mg) : (headB m).size = (headL m).length := by
  show (headL m).toArray.size = _; simp
theorem kindQ_sizes {m : Mg} (h : kindQ m = true) : m.me.size ≤ 20 ∧ m.ta.size ≤ 200 ∧ m.re.size ≤ 40 ∧ 0 ≤ m.st ∧ m.st ≤ 599 := by
  cases he : eqB m.me ⟨#[]⟩
  · rw [kindQ_req he, reqQ_iff] at h
    obtain ⟨h1, h2, h3, h4, _⟩ := h
    have z1 := (methQ_iff.1 h1).2
    have z2 := (targQ_iff.1 h2).2.1
    refine ⟨z1, z2, ?_, by omega, by omega⟩
    rw [h4]; show (0 : Nat) ≤ 40; omega
  · rw [kindQ_ans he, Bool.and_eq_true, ansQ_iff] at h
    obtain ⟨⟨h1, h2, h3, _⟩, _⟩ := h
    have z := stQ_iff.1 h2
    have e := eqB_iff.1 he
    refine ⟨?_, ?_, h3, by omega, by omega⟩
    · rw [e]; show (0 : Nat) ≤ 20; omega
    · rw [h1]; show (0 : Nat) ≤ 200; omega
end Go.Proofs.YthdgeepedofleaaGreatDoor
namespace Go.Proofs.YthdgeepedofleaaGreatDoor
set_option linter.unusedVariables false
set_option linter.unusedSimpArgs false
open Go.RowKit
theorem frmL_yes {l : List Fd} {k : Nat} (hk : k < l.length) (h : frmN (fdAt l k).1 = true) : frmL l = true := by
  unfold frmL
  rw [List.any_eq_true]
  rw [fdAt_get hk] at h
  exact ⟨l[k], List.getElem_mem hk, h⟩
theorem frmL_no {l : List Fd} (h : ∀ j, j < l.length → frmN (fdAt l j).1 = false) : frmL l = false := by
  unfold frmL
  rw [List.any_eq_false]
  intro x hx
  obtain ⟨j, hj, rfl⟩ := List.mem_iff_getElem.1 hx
  have := h j hj
  rw [fdAt_get hj] at this
  simp [this]
end Go.Proofs.YthdgeepedofleaaGreatDoor
namespace Go.Proofs.YthdgeepedofleaaGreatDoor
set_option linter.unusedVariables false
set_option linter.unusedSimpArgs false
open Go.RowKit

/-- The value v is a slice of the call's own that holds the texts l; nothing that was there in w0 has turned. -/
structure BufS (w0 w : World) (v : Value) (l : List ByteArray) : Prop where
  below : Below w0.heap.size w0 w
  own : w.ownsRow w0.heap.size 9 1 v l.length (l.map Value.string)

theorem Tryz.infoStr : (Tryz.prog.info? 9).map (fun i => (i.zero, i.size, i.bytes)) = some (some (.string ⟨#[]⟩), 1, 16) := by kernel_rfl

theorem BufS.start (w : World) : BufS w w (.slice none 0 0) [] := ⟨Below.refl _ _, World.ownsRow_nil _ _ _ _⟩
theorem BufS.alloc {w0 w : World} {v : Value} {l : List ByteArray} (h : BufS w0 w v l) (o : Obj) : BufS w0 (w.alloc o) v l :=
  ⟨h.below.alloc h.below.size o, h.own.alloc o⟩
theorem BufS.form {w0 w : World} {v : Value} {l : List ByteArray} (h : BufS w0 w v l) : ∃ (a : Option Addr) (c : Nat), v = .slice a l.length c := by
  rcases h.own.2 with ⟨h1, h2⟩ | ⟨g, cap, cur, h1, _⟩
  · exact ⟨none, 0, by rw [h1, h2]⟩
  · exact ⟨_, _, h1⟩
/-- A call that leaves all old blocks alone leaves the row. -/
theorem BufS.later {w0 w w' : World} {v : Value} {l : List ByteArray} (h : BufS w0 w v l) (hb : Below w.heap.size w w') : BufS w0 w' v l := by
  refine ⟨h.below.trans (hb.mono h.below.size), ?_⟩
  exact h.own.kept (row := none) ⟨hb.os, hb.tape, hb.output, hb.size, fun k hk _ => hb.block k hk⟩ (by
    cases hv : v.ownBlock with
    | none => exact Or.inl rfl
    | some g => exact Or.inr (by intro e; cases e))
/-- The row's cells, where there is one. -/
theorem BufS.cells {w0 w : World} {v : Value} {l : List ByteArray} (h : BufS w0 w v l) (hl : 0 < l.length) : ∃ g cap, v = .slice (some ⟨g, 0, none⟩) l.length cap ∧ w0.heap.size ≤ g ∧ g < w.heap.size ∧ ∀ j, j < l.length → w.cell? ⟨g, j, none⟩ = some (.string (l.getD j ⟨#[]⟩)) := by
  rcases h.own.2 with ⟨h1, h2⟩ | ⟨g, cap, cur, h1, hg, hh, _⟩
  · omega
  · have hlt := (h.own.lt g (by rw [h1]; rfl)).2
    refine ⟨g, cap, h1, hg, hlt, fun j hj => ?_⟩
    have := h.own.cells (g := g) (by rw [h1]; rfl) j (.string l[j]) (by simp [List.getElem?_eq_getElem hj])
    rw [Addr.add_lit, Nat.zero_add] at this
    rw [this]
    simp [List.getD, List.getElem?_eq_getElem hj]
theorem wp_sapp {ops : Array Oper} {rest : List Oper} {o : Oper} {a : Act} {Q : Exit → Act → World → Prop} {w0 W : World} (hgd : o.guard = none) (s x : Operand)
    (ho : o.op = .call { callee := .builtin .append, args := #[s, x], argTypes := #[107, 107] }) (v : Value) (l : List ByteArray) (hs : a.eval s = v) (hbuf : BufS w0 W v l)
    (y : ByteArray) (hx : a.eval x = .slice (some ⟨W.heap.size, 0, none⟩) 1 1) (hlen : l.length ≤ 1073741824)
    (h : ∀ v' W', BufS w0 W' v' (l ++ [y]) → wpList Tryz.prog ops Q rest (a.put o.dst v') W') :
    wpList Tryz.prog ops Q (o :: rest) a (W.alloc (.cells #[.string y] 9)) := by
  obtain ⟨i0, hi, hz0, hz1, hz2⟩ := info_parts Tryz.infoStr
  refine wpList_append_own _ hgd s x 107 ho w0.heap.size 9 i0 (.string ⟨#[]⟩) 1 16 Tryz.underlying107 hi hz0 hz1 hz2 rfl (by decide) v l.length (l.map Value.string) hs (hbuf.own.alloc _) ⟨W.heap.size, 0, none⟩ 1 1 [.string y] hx rfl (cell_one_new _ _ _) (fun u hu => by simp at hu; subst hu; rfl) (by unfold maxLen; omega) (by omega) (by have := hbuf.below.size; simp; omega) ?_
  intro v' W' hown hgrow _
  refine h v' W' ⟨?_, ?_⟩
  · refine (hbuf.alloc _).below.grown hgrow (by have := hbuf.below.size; simp; omega) ?_
    intro k hk
    exact (hbuf.own.lt k hk).1
  · rw [List.length_append, List.length_singleton, List.map_append]
    exact hown
end Go.Proofs.YthdgeepedofleaaGreatDoor
