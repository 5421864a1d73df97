/-
  A line that comes in by value, and a slice of lines that comes in, opened at every index. · Plain functions of chapter 1: gaps and Trim. No Go in sight. · A region that draws its order, whose first operations leave the world inside a class of worlds (they read; their callees may draw, or make memory of their own) and whose last ones wait for all of these (a store): one walk in the order of the text serves every order. Leans on the library's lemmas on 'qOp', 'HeadInv' and 'wpAny_of_seq'. · The class of the worlds that have grown out of one: for regions that draw their order and whose callees make memory of their own. · The marks of the exact laws: their texts; worlds that have grown but for one block. · Chapter 9: the laws' sizes, copies and comparisons of lines. · Plain functions of chapter 1: decimal numbers. No Go in sight. · Plain mathematics of chapter 2: digits with zeros ahead, and the numbers that are read of them. No Go in sight. · Plain mathematics of chapter 2: the calendar. No Go in sight. · Plain functions of chapter 2: the names and the texts of dates. No Go in sight.
-/
import Derived.Test.YtenjbgpndkodmacGreatDoorJ0
import Derived.Deep.Slices
import Derived.StillTail
import Derived.Deep.Quiet
import Derived.BigQuiet
import Derived.Lib.ConvBytes
import Derived.Lib.SmallJoins
import Derived.OwnWalk
import Derived.Laws.OwnMore
import Derived.Lib.ItoaNum
import Derived.WalkKit
namespace Go.Proofs.YtenjbgpndkodmacGreatDoor
set_option linter.unusedVariables false
set_option linter.unusedSimpArgs false
open Go.ChangeShapes Go.WideShapes Go.ChangeAt Go.RowKit
theorem list10 {α : Type} {cs : List α} (h : cs.length = 10) : ∃ c0 c1 c2 c3 c4 c5 c6 c7 c8 c9, cs = [c0, c1, c2, c3, c4, c5, c6, c7, c8, c9] := by
  match cs, h with
  | [c0, c1, c2, c3, c4, c5, c6, c7, c8, c9], _ => exact ⟨c0, c1, c2, c3, c4, c5, c6, c7, c8, c9, rfl⟩
set_option maxRecDepth 100000 in
set_option maxHeartbeats 2000000 in
theorem line_of {H : Type} {enc : TypeId × Value → H} {w : World} {base fuel : Nat} {spare : Nat → Bool} {held : Bool} {t : TypeId} {f0 f1 f2 f3 f4 f5 f6 f7 f8 f9 : Field} {cs : List Value} {y : DataW H × List MemPlace}
    (hs : Tryz.prog.underlying t = some (.struct #[f0, f1, f2, f3, f4, f5, f6, f7, f8, f9]))
    (o0 : f0.offset = 0) (k0 : Tryz.prog.cellsOf f0.type = 1) (o1 : f1.offset = 1) (k1 : Tryz.prog.cellsOf f1.type = 1) (o2 : f2.offset = 2) (k2 : Tryz.prog.cellsOf f2.type = 1) (o3 : f3.offset = 3) (k3 : Tryz.prog.cellsOf f3.type = 1) (o4 : f4.offset = 4) (k4 : Tryz.prog.cellsOf f4.type = 1) (o5 : f5.offset = 5) (k5 : Tryz.prog.cellsOf f5.type = 1) (o6 : f6.offset = 6) (k6 : Tryz.prog.cellsOf f6.type = 1) (o7 : f7.offset = 7) (k7 : Tryz.prog.cellsOf f7.type = 1) (o8 : f8.offset = 8) (k8 : Tryz.prog.cellsOf f8.type = 1) (o9 : f9.offset = 9) (k9 : Tryz.prog.cellsOf f9.type = 1)
    (e0 : Tryz.prog.underlying f0.type = some .string) (e1 : Tryz.prog.underlying f1.type = some (.int .i64)) (e2 : Tryz.prog.underlying f2.type = some (.int .i64)) (e3 : Tryz.prog.underlying f3.type = some .string) (e4 : Tryz.prog.underlying f4.type = some (.int .i64)) (e5 : Tryz.prog.underlying f5.type = some .string) (e6 : Tryz.prog.underlying f6.type = some .bool) (e7 : Tryz.prog.underlying f7.type = some (.int .i64)) (e8 : Tryz.prog.underlying f8.type = some (.int .i64)) (e9 : Tryz.prog.underlying f9.type = some (.int .i64))
    (hlen : cs.length = 10) (h : DataW.trod enc Tryz.prog w base spare held fuel t cs = some y) : ∃ x : Lx, cs = (lxC x).toList ∧ ZX x := by
  obtain ⟨c0, c1, c2, c3, c4, c5, c6, c7, c8, c9, rfl⟩ := list10 hlen
  obtain ⟨xs, n, _, _, _, hl, hf⟩ := DataW.trod_struct hs h
  have hx : xs.length = 10 := by simpa using hl
  have str : ∀ {ty : TypeId} {c : Value} {j : Nat}, Tryz.prog.underlying ty = some .string → j < 10 → DataW.trod enc Tryz.prog w base spare held n ty [c] = xs[j]? → ∃ z : ByteArray, c = .string z ∧ z.size ≤ maxLen := by
    intro ty c j hu hj ht
    rw [List.getElem?_eq_getElem (by omega)] at ht
    obtain ⟨z, hz, _, hw⟩ := DataW.trod_string hu ht
    exact ⟨z, by simpa using hz, hw⟩
  have num : ∀ {ty : TypeId} {c : Value} {j : Nat}, Tryz.prog.underlying ty = some (.int .i64) → j < 10 → DataW.trod enc Tryz.prog w base spare held n ty [c] = xs[j]? → ∃ z : Int, c = .int .i64 z := by
    intro ty c j hu hj ht
    rw [List.getElem?_eq_getElem (by omega)] at ht
    obtain ⟨z, hz, _, hw⟩ := DataW.trod_int hu ht
    exact ⟨z, by simpa using hz⟩
  have boo : ∀ {ty : TypeId} {c : Value} {j : Nat}, Tryz.prog.underlying ty = some .bool → j < 10 → DataW.trod enc Tryz.prog w base spare held n ty [c] = xs[j]? → ∃ z : Bool, c = .bool z := by
    intro ty c j hu hj ht
    rw [List.getElem?_eq_getElem (by omega)] at ht
    obtain ⟨z, hz, _⟩ := DataW.trod_bool hu ht
    exact ⟨z, by simpa using hz⟩
  obtain ⟨ke, rfl, z0⟩ := str (j := 0) e0 (by omega) (by simpa [o0, k0] using hf 0 f0 rfl)
  obtain ⟨ti, rfl⟩ := num (j := 1) e1 (by omega) (by simpa [o1, k1] using hf 1 f1 rfl)
  obtain ⟨si, rfl⟩ := num (j := 2) e2 (by omega) (by simpa [o2, k2] using hf 2 f2 rfl)
  obtain ⟨me, rfl, z3⟩ := str (j := 3) e3 (by omega) (by simpa [o3, k3] using hf 3 f3 rfl)
  obtain ⟨st, rfl⟩ := num (j := 4) e4 (by omega) (by simpa [o4, k4] using hf 4 f4 rfl)
  obtain ⟨la, rfl, z5⟩ := str (j := 5) e5 (by omega) (by simpa [o5, k5] using hf 5 f5 rfl)
  obtain ⟨rv, rfl⟩ := boo (j := 6) e6 (by omega) (by simpa [o6, k6] using hf 6 f6 rfl)
  obtain ⟨se, rfl⟩ := num (j := 7) e7 (by omega) (by simpa [o7, k7] using hf 7 f7 rfl)
  obtain ⟨wh, rfl⟩ := num (j := 8) e8 (by omega) (by simpa [o8, k8] using hf 8 f8 rfl)
  obtain ⟨sz, rfl⟩ := num (j := 9) e9 (by omega) (by simpa [o9, k9] using hf 9 f9 rfl)
  exact ⟨⟨ke, ti, si, me, st, la, rv, se, wh, sz⟩, rfl, z0, z3, z5⟩
set_option maxRecDepth 100000 in
theorem line_in {H : Type} {enc : TypeId × Value → H} {w : World} {base fuel : Nat} {spare : Nat → Bool} {held : Bool} {cs : List Value} {y : DataW H × List MemPlace} (hlen : cs.length = 10) (h : DataW.trod enc Tryz.prog w base spare held fuel 42 cs = some y) : ∃ x : Lx, cs = (lxC x).toList ∧ ZX x :=
  line_of Tryz.underlying42 rfl (by kernel_rfl) rfl (by kernel_rfl) rfl (by kernel_rfl) rfl (by kernel_rfl) rfl (by kernel_rfl) rfl (by kernel_rfl) rfl (by kernel_rfl) rfl (by kernel_rfl) rfl (by kernel_rfl) rfl (by kernel_rfl) Tryz.underlying9 Tryz.underlying3 Tryz.underlying3 Tryz.underlying9 Tryz.underlying3 Tryz.underlying9 Tryz.underlying4 Tryz.underlying3 Tryz.underlying3 Tryz.underlying3 hlen h
set_option maxRecDepth 100000 in
theorem open_line {H : Type} {enc : TypeId × Value → H} {w : World} {base : Nat} {spare : Nat → Bool} {held : Bool} {r : Reach} {b0 : Nat} {v : Value} {d : DataW H} {p : List MemPlace}
    (hv : Value.okWide Tryz.prog w r b0 42 v) (h : DataW.Trod enc Tryz.prog w base spare held 42 v d p) : ∃ x : Lx, v = lxV x ∧ ZX x := by
  obtain ⟨cs, rfl, hsz⟩ := okWide_struct Tryz.underlying42 hv
  obtain ⟨fuel, hf⟩ := h
  have hsz2 : cs.size = 10 := hsz.trans (by kernel_rfl)
  have hf' : DataW.trod enc Tryz.prog w base spare held fuel 42 cs.toList = some (d, p) := hf
  obtain ⟨x, hx, hz⟩ := line_in (by simpa using hsz2) hf'
  refine ⟨x, ?_, hz⟩
  show Value.agg cs = Value.agg (lxC x)
  rw [Array.toList_inj.1 hx]
theorem argX_in {H : Type} {enc : TypeId × Value → H} {w : World} {base : Nat} {spare : Nat → Bool} {held : Bool} {a : Option Addr} {len cap : Nat} {x : DataW H × List MemPlace}
    (h : ∃ fuel, DataW.trod enc Tryz.prog w base spare held fuel 22 (Value.slice a len cap).cells.toList = some x) :
    ∃ l : List Lx, ArgX w a len l ∧ len ≤ maxLen ∧ ∀ j, j < len → ZX (lxAt l j) := by
  obtain ⟨fuel, hf⟩ := h
  have hf' : DataW.trod enc Tryz.prog w base spare held fuel 22 [Value.slice a len cap] = some x := hf
  rcases Deep.open_slice Tryz.underlying22 hf' with ⟨hcs, _⟩ | ⟨a', len', cap', m, n, D, Pl, hcs, _, hl, hm, hmm, _, hall⟩
  · injection hcs with e _
    injection e with e1 e2 e3
    subst e1 e2
    exact ⟨[], ⟨rfl, .inl rfl⟩, Nat.zero_le _, fun j hj => absurd hj (Nat.not_lt_zero j)⟩
  · injection hcs with e _
    injection e with e1 e2 e3
    subst e1 e2 e3
    have hlm : len ≤ m := by rw [hmm]; split <;> omega
    have hc10 : Tryz.prog.cellsOf 42 = 10 := by kernel_rfl
    have each : ∀ i, i < len → ∃ x : Lx, (∀ j v, (lxC x)[j]? = some v → w.cell? (a'.add (i * 10 + j)) = some v) ∧ ZX x := by
      intro i hi
      obtain ⟨cs', h1, h2⟩ := hall i (by omega)
      rw [hc10] at h1
      obtain ⟨_, hlen, hcell⟩ := World.cells?_some h1
      obtain ⟨x, hx, hz⟩ := line_in hlen h2
      refine ⟨x, fun j v hv => ?_, hz⟩
      have hj : j < 10 := by have := (Array.getElem?_eq_some_iff.1 hv).1; exact this
      have e0 := hcell j (by omega)
      rw [Deep.add_add] at e0
      rw [e0, hx, ← hv]
      simp
    have inh : Inhabited Lx := ⟨lx0⟩
    obtain ⟨f, hf⟩ := Deep.choose_lt each
    have hat : ∀ j, j < len → lxAt ((List.range len).map f) j = f j := fun j hj => by rw [lxAt_get (by simpa using hj)]; simp
    refine ⟨(List.range len).map f, ⟨by simp, ?_⟩, Nat.le_trans hl hm, fun j hj => by rw [hat j hj]; exact (hf j hj).2⟩
    by_cases h0 : len = 0
    · exact .inl h0
    · right
      obtain ⟨b, off, spot⟩ := a'
      have hc := (hf 0 (by omega)).1 0 _ rfl
      have hspot : spot = none := by simpa [Addr.add] using World.cell?_spot hc
      subst hspot
      refine ⟨b, off, rfl, ?_, fun i hi => ?_⟩
      · have := World.block_lt_of_cell? _ _ hc
        simpa [Addr.add] using this
      · have g := (hf i hi).1
        rw [hat i hi]
        have g' : ∀ j v, (lxC (f i))[j]? = some v → w.cell? ⟨b, off + i * 10 + j, none⟩ = some v := by
          intro j v hv
          have := g j v hv
          rwa [Addr.add_lit, ← Nat.add_assoc] at this
        exact ⟨g' 0 _ rfl, g' 1 _ rfl, g' 2 _ rfl, g' 3 _ rfl, g' 4 _ rfl, g' 5 _ rfl, g' 6 _ rfl, g' 7 _ rfl, g' 8 _ rfl, g' 9 _ rfl⟩
end Go.Proofs.YtenjbgpndkodmacGreatDoor
namespace Go.Proofs.YtenjbgpndkodmacGreatDoor
set_option linter.unusedVariables false
set_option linter.unusedSimpArgs false
open Go.RowKit

def gapP (n : Int) : Bool := n == 32 || n == 9
def gap8 (b : UInt8) : Bool := gapP (b.toNat : Int)
def digP (n : Int) : Bool := decide (48 ≤ n) && decide (n ≤ 57)
def dig8 (b : UInt8) : Bool := digP (b.toNat : Int)
def trimL (l : List UInt8) : List UInt8 := ((l.dropWhile gap8).reverse.dropWhile gap8).reverse
def trimB (s : ByteArray) : ByteArray := ⟨(trimL s.data.toList).toArray⟩

theorem dropWhile_all {α : Type} (p : α → Bool) : ∀ (a b : List α), (∀ x ∈ a, p x = true) → (a ++ b).dropWhile p = b.dropWhile p
  | [], _, _ => rfl
  | x :: a, b, h => by
    have hx : p x = true := h x (by simp)
    rw [List.cons_append, List.dropWhile_cons_of_pos hx]
    exact dropWhile_all p a b (fun y hy => h y (by simp [hy]))
theorem dropWhile_head {α : Type} (p : α → Bool) (x : α) (l : List α) (h : p x = false) : (x :: l).dropWhile p = x :: l := by
  rw [List.dropWhile_cons_of_neg (by simp [h])]
theorem trimL_of (a m z : List UInt8) (ha : ∀ x ∈ a, gap8 x = true) (hz : ∀ x ∈ z, gap8 x = true) (hm : m = [] ∨ ∃ (x y : UInt8) (r q : List UInt8), m = x :: r ∧ m = q ++ [y] ∧ gap8 x = false ∧ gap8 y = false) : trimL (a ++ m ++ z) = m := by
  unfold trimL
  rw [List.append_assoc, dropWhile_all gap8 a (m ++ z) ha]
  rcases hm with rfl | ⟨x, y, r, q, e1, e2, hx, hy⟩
  · rw [List.nil_append]
    have := dropWhile_all gap8 z [] hz
    rw [List.append_nil] at this
    rw [this]
    rfl
  · have h1 : (m ++ z).dropWhile gap8 = m ++ z := by rw [e1, List.cons_append]; exact dropWhile_head gap8 x _ hx
    rw [h1, List.reverse_append, dropWhile_all gap8 z.reverse m.reverse (fun u hu => hz u (by simpa using hu))]
    have h2 : m.reverse = y :: q.reverse := by rw [e2]; simp
    rw [h2, dropWhile_head gap8 y _ hy, ← h2, List.reverse_reverse]

/-- The byte at a place. -/
def at8 (s : ByteArray) (k : Nat) : UInt8 := s.data.toList.getD k 0
theorem at8_eq (s : ByteArray) (k : Nat) (h : k < s.size) : s[k] = at8 s k := by
  have h' : k < s.data.toList.length := by simpa using h
  show s.data[k] = _
  simp [at8, List.getD, List.getElem?_eq_getElem h']

theorem extract_list (s : ByteArray) (k t : Nat) : (s.extract k t).data.toList = (s.data.toList.take t).drop k := by
  rw [ByteArray.data_extract, Array.toList_extract]
  simp only [List.extract]
  rw [List.drop_take]
theorem bytes_ext {a b : ByteArray} (h : a.data.toList = b.data.toList) : a = b := by
  cases a; cases b
  congr 1
  exact Array.toList_inj.1 h

theorem trim_of (s : ByteArray) (k t : Nat) (hk : ∀ j, j < k → gap8 (at8 s j) = true) (he : k = s.size ∨ gap8 (at8 s k) = false) (hkt : k ≤ t) (ht : t ≤ s.size)
    (hz : ∀ j, t ≤ j → j < s.size → gap8 (at8 s j) = true) (hf : t = k ∨ gap8 (at8 s (t - 1)) = false) : s.extract k t = trimB s := by
  apply bytes_ext
  rw [extract_list]
  show _ = trimL s.data.toList
  have hl : s.data.toList.length = s.size := by show _ = s.data.size; simp
  generalize hL : s.data.toList = l at *
  have hat : ∀ j, at8 s j = l.getD j 0 := by intro j; unfold at8; rw [hL]
  have e : l = l.take k ++ (l.take t).drop k ++ l.drop t := by
    have h1 : l.take k = (l.take t).take k := by rw [List.take_take]; congr 1; omega
    rw [h1, List.take_append_drop, List.take_append_drop]
  have hA : ∀ x ∈ l.take k, gap8 x = true := by
    intro x hx
    obtain ⟨j, hj, rfl⟩ := List.mem_iff_getElem.1 hx
    have hj' : j < k ∧ j < l.length := by simp at hj; omega
    have := hk j hj'.1
    rw [hat] at this
    simpa [List.getD, List.getElem?_eq_getElem hj'.2] using this
  have hZ : ∀ x ∈ l.drop t, gap8 x = true := by
    intro x hx
    obtain ⟨j, hj, rfl⟩ := List.mem_iff_getElem.1 hx
    have hj' : t + j < l.length := by simp at hj; omega
    have := hz (t + j) (by omega) (by omega)
    rw [hat] at this
    simpa [List.getD, List.getElem?_eq_getElem hj'] using this
  have hM : (l.take t).drop k = [] ∨ ∃ (x y : UInt8) (r q : List UInt8), (l.take t).drop k = x :: r ∧ (l.take t).drop k = q ++ [y] ∧ gap8 x = false ∧ gap8 y = false := by
    rcases Nat.lt_or_ge k t with h | h
    · right
      have h1 : k < (l.take t).length := by simp; omega
      have h2 : t - 1 < l.length := by omega
      refine ⟨(l.take t)[k], l[t - 1], (l.take t).drop (k + 1), (l.take (t - 1)).drop k, List.drop_eq_getElem_cons h1, ?_, ?_, ?_⟩
      · have e2 : l.take t = l.take (t - 1) ++ [l[t - 1]] := by
          have := List.take_succ_eq_append_getElem h2
          rw [show t - 1 + 1 = t from by omega] at this
          exact this
        rw [e2, List.drop_append_of_le_length (by simp; omega)]
      · rcases he with he | he
        · omega
        · rw [hat] at he
          have h3 : k < l.length := by omega
          simpa [List.getD, List.getElem?_eq_getElem h3, List.getElem_take] using he
      · rcases hf with hf | hf
        · omega
        · rw [hat] at hf
          simpa [List.getD, List.getElem?_eq_getElem h2] using hf
    · left
      apply List.drop_eq_nil_of_le
      simp
      omega
  conv => rhs; rw [e]
  exact (trimL_of _ _ _ hA hZ hM).symm
theorem trimB_size (s : ByteArray) : (trimB s).size ≤ s.size := by
  show (trimL s.data.toList).toArray.size ≤ s.data.size
  have h1 : ∀ (l : List UInt8), (l.dropWhile gap8).length ≤ l.length := fun l => (List.dropWhile_sublist gap8).length_le
  have := h1 s.data.toList
  have h2 := h1 (s.data.toList.dropWhile gap8).reverse
  unfold trimL
  simp at *
  omega
theorem all_succ {p : Nat → Prop} {k : Nat} (h : ∀ j, j < k → p j) (hk : p k) : ∀ j, j < k + 1 → p j := by
  intro j hj
  rcases Nat.lt_or_ge j k with h1 | h1
  · exact h j h1
  · obtain rfl : j = k := by omega
    exact hk
theorem all_pred {p : Nat → Prop} {u n : Nat} (h : ∀ j, u + 1 ≤ j → j < n → p j) (hk : p u) : ∀ j, u ≤ j → j < n → p j := by
  intro j hj hn
  rcases Nat.lt_or_ge u j with h1 | h1
  · exact h j h1 hn
  · obtain rfl : j = u := by omega
    exact hk
theorem u8_beq (a b : UInt8) : ((a.toNat : Int) == (b.toNat : Int)) = (a == b) := by
  rw [Bool.eq_iff_iff, beq_iff_eq, beq_iff_eq]
  constructor
  · intro h; exact UInt8.toNat_inj.1 (by omega)
  · intro h; rw [h]
end Go.Proofs.YtenjbgpndkodmacGreatDoor
namespace Go.Proofs.YtenjbgpndkodmacGreatDoor
set_option linter.unusedVariables false
set_option linter.unusedSimpArgs false
open Go
section
variable {P : Program} {md : Region.Mode} {ops : Array Oper} {C : World → Prop}
/-- No operation from n on comes up while one of k0 .. n - 1 has not. -/
def Waits (md : Region.Mode) (ops : Array Oper) (k0 n : Nat) : Prop :=
  ∀ up, HeadInv md ops n up → ∀ i, k0 ≤ i → i < n → up.getD i true = false → ∀ t, n ≤ t → t ∉ Region.ready md ops up
/-- The operations below n, in whatever order; where f of them have come up, L. -/
def Hd (P : Program) (md : Region.Mode) (ops : Array Oper) (C : World → Prop) (n : Nat) (L : Array Bool → Act → Prop) : Nat → Array Bool → Act → Prop
  | 0 => L
  | f + 1 => fun up a => (∃ i, i ∈ Region.ready md ops up) ∧ ∀ i ∈ Region.ready md ops up, i < n ∧ qOp P ops C i (Hd P md ops C n L f (up.setIfInBounds i true)) a
theorem Hd.wp {n g : Nat} {L : Array Bool → Act → Prop} {Q : Exit → Act → World → Prop} (hL : ∀ up a w, C w → L up a → wpAny P md ops Q g up a w) (f : Nat) :
    ∀ up a w, C w → Hd P md ops C n L f up a → wpAny P md ops Q (f + g) up a w := by
  induction f with
  | zero => intro up a w hw h; rw [Nat.zero_add]; exact hL up a w hw h
  | succ f ih =>
    intro up a w hw ⟨⟨i0, h0⟩, h⟩
    have e : f + 1 + g = (f + g) + 1 := by omega
    rw [e]
    refine ⟨fun hn => ?_, fun i hi => wpOp_of_qOp hw (fun a' w' hw' h' => ih _ a' w' hw' h') (h i hi).2⟩
    rw [hn] at h0; cases h0
/-- What may come up now, and yields the same in every world of the class, may be taken first. -/
theorem Hd.first {n i : Nat} {oi : Oper} {v : Value} {L : Array Bool → Act → Prop} (hi : ops[i]? = some oi) (hsel : Region.noSelect ops = true) (k0 : Nat) (hw : Waits md ops k0 n) (hk : k0 ≤ i) (hin : i < n)
    (hL : ∀ up a, L up a → ∀ j ∈ Region.ready md ops up, n ≤ j) (f : Nat) :
    ∀ up a, HeadInv md ops n up → (∀ j oj, ops[j]? = some oj → j ≠ i → up.getD j true = false → (∀ e ∈ oj.after, Region.binds md e = true → e.on ≠ i) → oi.apart ops oj = true) →
      i ∈ Region.ready md ops up → YieldsIn P ops C oi v a → Hd P md ops C n L f (up.setIfInBounds i true) (a.put oi.dst v) → Hd P md ops C n L (f + 1) up a := by
  have hno := Region.noSelect_spec hsel
  induction f with
  | zero =>
    intro up a inv _ hr hy H
    refine ⟨⟨i, hr⟩, fun j hj => ?_⟩
    have hjn : j < n := Nat.lt_of_not_le fun h => hw up inv i hk hin (mem_ready.1 hr).1 j h hj
    refine ⟨hjn, ?_⟩
    by_cases e : j = i
    · subst e; exact hy.qOp hi H
    · have := hL _ _ H j (ready_mono hj e)
      omega
  | succ f ih =>
    intro up a inv hap hr hy H
    refine ⟨⟨i, hr⟩, fun j hj => ?_⟩
    have hjn : j < n := Nat.lt_of_not_le fun h => hw up inv i hk hin (mem_ready.1 hr).1 j h hj
    refine ⟨hjn, ?_⟩
    by_cases e : j = i
    · subst e; exact hy.qOp hi H
    · obtain ⟨hju, oj, hoj, hall⟩ := mem_ready.1 hj
      have hnw : ∀ x ∈ oj.after, Region.binds md x = true → x.on ≠ i := by
        intro x hx hb ho
        have h1 := hall x hx hb
        rw [ho, getD_both (mem_ready.1 hr).1] at h1
        cases h1
      refine qOp_mono (fun a' h' => ?_) (qOp_put hoj (hap j oj hoj e hju hnw) (fun cs b => hno i oi cs b hi) (fun cs b => hno j oj cs b hoj) hy (H.2 j (ready_mono hj e)).2)
      refine ih _ a' (inv.set hj hjn) (fun k ok hk hki hun hw => hap k ok hk hki ?_ hw) (ready_mono hr (Ne.symm e)) h'.1 ?_
      · by_cases ejk : j = k
        · subst ejk; exact hju
        · rwa [getD_set_ne true ejk] at hun
      · rw [Array.setIfInBounds_comm _ _ e]; exact h'.2
theorem Hd.text {n g : Nat} {Lq : Act → Prop} (hsel : Region.noSelect ops = true) (k0 : Nat) (hw : Waits md ops k0 n) (l : List Oper) :
    ∀ k up a, k0 ≤ k → (∀ j, j < l.length → l[j]? = ops[k + j]?) → k + l.length = n → HeadInv md ops n up → Region.lexHead md ops g l.length k up = true → wpQuiet P ops C Lq l a →
      Hd P md ops C n (fun up' a' => Region.seqB md ops g n up' = true ∧ Lq a') l.length up a := by
  induction l with
  | nil =>
    intro k up a _ _ hk _ hB h
    obtain rfl : k = n := by simpa using hk
    exact ⟨by simpa [Region.lexHead] using hB, h⟩
  | cons o l ih =>
    intro k up a hk0 hl hk inv hB h
    have h0 : ops[k]? = some o := by simpa using (hl 0 (by simp)).symm
    simp only [List.length_cons, Region.lexHead, Bool.and_eq_true] at hB
    obtain ⟨⟨hr0, hf⟩, hB'⟩ := hB
    have hr : k ∈ Region.ready md ops up := by simpa using hr0
    simp only [List.length_cons] at hk
    have hq : qOp P ops C k (wpQuiet P ops C Lq l) a := by unfold qOp; rw [h0]; exact h
    obtain ⟨v, hy, hK⟩ := yieldsIn_of_qOp h0 hq
    refine Hd.first h0 hsel k0 hw hk0 (by omega) (fun up' a' hh => seqB_ready hh.1) l.length up a inv (Region.free_spec h0 hf) hr hy ?_
    refine ih (k + 1) _ _ (by omega) (fun j hj => ?_) (by omega) (inv.set hr (by omega)) hB' hK
    have := hl (j + 1) (by simp; omega)
    rw [show k + 1 + j = k + (j + 1) by omega, ← this]
    simp
theorem wp_region_quiet_tail {id : Nat} {Q : Exit → Act → World → Prop} {a : Act} {w : World} {l : List Oper} (C : World → Prop) (n : Nat) (hm : P.follows .mixedOrders = true) (hB : Region.lexTailB .any l.toArray n = true) (hC : C { w with drawn := w.drawn + 1 })
    (h : wpQuiet P l.toArray C (fun a' => ∀ w', C w' → wpList P l.toArray Q (l.drop n) a' w') (l.take n) a) : (Code.region id l.toArray true).wp P Q a w := by
  simp only [Region.lexTailB, Bool.and_eq_true, decide_eq_true_eq] at hB
  obtain ⟨⟨⟨⟨hsel, hn⟩, hs⟩, hc⟩, hlex⟩ := hB
  have hnl : n < l.length := by simpa using hn
  have htl : (l.take n).length = n := by simp; omega
  have hdl : (l.drop n).length = l.toArray.size - n := by simp
  have inv0 : HeadInv .any l.toArray n (Array.replicate l.toArray.size false) :=
    ⟨by simp, fun j oj _ hl => (by rw [getD_replicate_false] at hl; cases hl), fun t _ ht => getD_in (by simpa using ht) (getD_replicate_false _ _)⟩
  have H := Hd.text (C := C) (md := .any) (g := l.toArray.size - n) hsel 0 (fun up inv i _ hin hun t ht => tail_waits hs hc hn inv _ i rfl hin hun t ht) (l.take n) 0 (Array.replicate l.toArray.size false) a (Nat.le_refl _)
    (fun j hj => by rw [htl] at hj; simp [hj]) (by rw [htl]; omega) inv0 (by rw [htl]; exact hlex) h
  have HW := Hd.wp (Q := Q) (g := l.toArray.size - n) (fun up a' w' hw' hh => by
    have := wpAny_of_seq (P := P) (md := .any) (Q' := Q) (l.drop n) n up a' w' (fun j => by simp [List.getElem?_drop]) (by rw [hdl]; exact hh.1) (hh.2 w' hw')
    rwa [hdl] at this) _ _ a _ hC H
  refine wp_region_any hm ?_
  rw [htl, show n + (l.toArray.size - n) = l.toArray.size by omega] at HW
  exact HW
/-- The same, at the class 'w after some draws'. -/
theorem wp_region_draws_tail {id : Nat} {Q : Exit → Act → World → Prop} {a : Act} {w : World} {l : List Oper} (n : Nat) (hm : P.follows .mixedOrders = true) (hB : Region.lexTailB .any l.toArray n = true)
    (h : wpQuiet P l.toArray (fun w' => ∃ m, w' = w.drewN m) (fun a' => ∀ w', (∃ m, w' = w.drewN m) → wpList P l.toArray Q (l.drop n) a' w') (l.take n) a) : (Code.region id l.toArray true).wp P Q a w :=
  wp_region_quiet_tail (fun w' => ∃ m, w' = w.drewN m) n hm hB ⟨1, rfl⟩ h
/-- Each of k0 .. n - 1 is waited for by a later one up to n, each behind n by the next. -/
def lateB (md : Region.Mode) (ops : Array Oper) (k0 n : Nat) : Bool :=
  ((List.range n).all fun i => decide (i < k0) || (List.range (n + 1)).any fun j => decide (i < j) && Region.waitsFor md ops j i) && Region.chainB md ops n
theorem late_waits {k0 n : Nat} (hB : lateB md ops k0 n = true) : Waits md ops k0 n := by
  simp only [lateB, Bool.and_eq_true] at hB
  obtain ⟨hs, hc⟩ := hB
  intro up inv
  have unl : ∀ {x : Nat}, x < ops.size → up.getD x false ≠ true → up.getD x true = false := fun {x} hx h => getD_in (by rw [inv.size]; exact hx) (by simpa using h)
  have key : ∀ d i, n - i = d → k0 ≤ i → i < n → up.getD i true = false → n ∉ Region.ready md ops up := by
    intro d
    induction d using Nat.strongRecOn with
    | _ d ih =>
      intro i hd hk hi hu hr
      obtain ⟨_, o, ho, hall⟩ := mem_ready.1 hr
      have h1 := List.all_eq_true.1 hs i (List.mem_range.2 hi)
      have h2 : ¬ i < k0 := by omega
      simp only [h2, decide_false, Bool.false_or, List.any_eq_true, Bool.and_eq_true, decide_eq_true_eq] at h1
      obtain ⟨j, hjm, hij, hwj⟩ := h1
      have hjn : j ≤ n := by have := List.mem_range.1 hjm; omega
      obtain ⟨oj, hoj, e, he, hbd, hon⟩ := Region.waitsFor_spec hwj
      by_cases hl : up.getD j false = true
      · have h3 := inv.closed j oj hoj hl e he hbd
        rw [hon, getD_both hu] at h3; cases h3
      · by_cases hjn' : j = n
        · subst hjn'
          obtain rfl : oj = o := Option.some.inj (hoj.symm.trans ho)
          have h3 := hall e he hbd
          rw [hon, getD_both hu] at h3; cases h3
        · exact ih (n - j) (by omega) j rfl (by omega) (by omega) (unl (Array.getElem?_eq_some_iff.1 hoj).1 hl) hr
  intro i hk hi hu t ht hr
  by_cases htn : t = n
  · subst htn; exact key _ i rfl hk hi hu hr
  · obtain ⟨_, o, ho, hall⟩ := mem_ready.1 hr
    have htl := (Array.getElem?_eq_some_iff.1 ho).1
    have h1 := List.all_eq_true.1 hc t (List.mem_range.2 htl)
    have h2 : ¬ t ≤ n := by omega
    simp only [h2, decide_false, Bool.false_or] at h1
    obtain ⟨o', ho', e, he, hbd, hon⟩ := Region.waitsFor_spec h1
    obtain rfl : o' = o := Option.some.inj (ho'.symm.trans ho)
    have h3 := hall e he hbd
    rw [hon, getD_both (inv.tail (t - 1) (by omega) (by omega))] at h3; cases h3
/-- A first operation that yields the same in every world is taken first; then as above. -/
def leadB (ops : Array Oper) (n : Nat) : Bool :=
  Region.noSelect ops && decide (0 < n) && decide (n < ops.size) && lateB .any ops 1 n && (Region.ready .any ops (Array.replicate ops.size false)).contains 0 && Region.free .any ops (Array.replicate ops.size false) 0 && Region.lexHead .any ops (ops.size - n) (n - 1) 1 ((Array.replicate ops.size false).setIfInBounds 0 true)
theorem wp_region_lead_tail {id : Nat} {Q : Exit → Act → World → Prop} {a : Act} {w : World} {o0 : Oper} {l : List Oper} (C : World → Prop) (n : Nat) (v0 : Value) (hm : P.follows .mixedOrders = true) (hB : leadB (o0 :: l).toArray (n + 1) = true)
    (hQ : ∀ c a w, Q (.panic c) (a.put o0.dst v0) w → Q (.panic c) a w) (hy : Yields P (o0 :: l).toArray o0 v0 a) (hC : C { w with drawn := w.drawn + 1 })
    (h : wpQuiet P (o0 :: l).toArray C (fun a' => ∀ w', C w' → wpList P (o0 :: l).toArray Q (l.drop n) a' w') (l.take n) (a.put o0.dst v0)) : (Code.region id (o0 :: l).toArray true).wp P Q a w := by
  simp only [leadB, Bool.and_eq_true, decide_eq_true_eq] at hB
  obtain ⟨⟨⟨⟨⟨⟨hsel, _⟩, hn⟩, hlate⟩, hr⟩, hf⟩, hlex⟩ := hB
  have hsz : (o0 :: l).toArray.size = l.length + 1 := by simp
  have hnl : n < l.length := by rw [hsz] at hn; omega
  have htl : (l.take n).length = n := by rw [List.length_take]; omega
  have hdl : (l.drop n).length = (o0 :: l).toArray.size - (n + 1) := by rw [List.length_drop, hsz]; omega
  have inv0 : HeadInv .any (o0 :: l).toArray (n + 1) (Array.replicate (o0 :: l).toArray.size false) :=
    ⟨by simp, fun j oj _ hl => (by rw [getD_replicate_false] at hl; cases hl), fun t _ ht => getD_in (by simpa using ht) (getD_replicate_false _ _)⟩
  have hr0 : 0 ∈ Region.ready .any (o0 :: l).toArray (Array.replicate (o0 :: l).toArray.size false) := by simpa using hr
  have inv1 := inv0.set hr0 (by omega)
  have H := Hd.text (C := C) (md := .any) (g := (o0 :: l).toArray.size - (n + 1)) hsel 1 (late_waits hlate) (l.take n) 1 _ (a.put o0.dst v0) (Nat.le_refl _)
    (fun j hj => by rw [htl] at hj; rw [List.getElem?_take, if_pos hj, show 1 + j = j + 1 by omega]; simp) (by rw [htl]; omega) inv1 (by rw [htl]; exact hlex) h
  have HW := Hd.wp (Q := Q) (g := (o0 :: l).toArray.size - (n + 1)) (fun up a' w' hw' hh => by
    have := wpAny_of_seq (P := P) (md := .any) (Q' := Q) (l.drop n) (n + 1) up a' w' (fun j => by rw [List.getElem?_drop, show n + 1 + j = (n + j) + 1 by omega]; simp) (by rw [hdl]; exact hh.1) (hh.2 w' hw')
    rwa [hdl] at this) _ _ (a.put o0.dst v0) _ hC H
  refine wp_region_any hm ?_
  have e : (o0 :: l).toArray.size = ((l.take n).length + ((o0 :: l).toArray.size - (n + 1))) + 1 := by rw [htl, hsz]; omega
  have T := wpAny_take (P := P) (md := .any) (i := 0) (oi := o0) (v := v0) (fuel := (l.take n).length + ((o0 :: l).toArray.size - (n + 1))) (by simp) hsel hf hr hQ hy HW
  rw [← e] at T
  exact T
/-- The same, at the class 'w after some draws'. -/
theorem wp_region_lead_draws {id : Nat} {Q : Exit → Act → World → Prop} {a : Act} {w : World} {o0 : Oper} {l : List Oper} (n : Nat) (v0 : Value) (hm : P.follows .mixedOrders = true) (hB : leadB (o0 :: l).toArray (n + 1) = true)
    (hQ : ∀ c a w, Q (.panic c) (a.put o0.dst v0) w → Q (.panic c) a w) (hy : Yields P (o0 :: l).toArray o0 v0 a)
    (h : wpQuiet P (o0 :: l).toArray (fun w' => ∃ m, w' = w.drewN m) (fun a' => ∀ w', (∃ m, w' = w.drewN m) → wpList P (o0 :: l).toArray Q (l.drop n) a' w') (l.take n) (a.put o0.dst v0)) : (Code.region id (o0 :: l).toArray true).wp P Q a w :=
  wp_region_lead_tail (fun w' => ∃ m, w' = w.drewN m) n v0 hm hB hQ hy ⟨1, rfl⟩ h
end
end Go.Proofs.YtenjbgpndkodmacGreatDoor
namespace Go.Proofs.YtenjbgpndkodmacGreatDoor
set_option linter.unusedVariables false
set_option linter.unusedSimpArgs false
open Go.RowKit
structure Gr (W : World) where
  w : World
  h : Below W.heap.size W w
def grw (W : World) (V : Gr W) : World := V.w
theorem grw_below (W : World) (V : Gr W) : Below W.heap.size W (grw W V) := V.h
theorem grw_cell {W : World} {b : Nat} (o : Nat) (h : b < W.heap.size) (V : Gr W) : (grw W V).cell? ⟨b, o, none⟩ = W.cell? ⟨b, o, none⟩ := (grw_below W V).cell (p := ⟨b, o, none⟩) h
theorem grw_some {W : World} {b o : Nat} {v : Value} (h : W.cell? ⟨b, o, none⟩ = some v) (V : Gr W) : (grw W V).cell? ⟨b, o, none⟩ = some v := by
  rw [grw_cell o (World.block_lt_of_cell? _ _ h) V]; exact h
theorem grow_drawn (w : World) : ∃ V : Gr w, { w with drawn := w.drawn + 1 } = grw w V := ⟨⟨w.drew, (Below.refl _ w).drew⟩, rfl⟩
theorem wp_region_grow {P : Program} {id : Nat} {Q : Exit → Act → World → Prop} {a : Act} {w : World} {l : List Oper} (hm : P.follows .mixedOrders = true) (hB : Region.lexB .any l.toArray = true)
    (h : Nonempty (Gr w) → wpQuiet P l.toArray (fun w' => ∃ V, w' = grw w V) (fun a' => ∀ w', (∃ V, w' = grw w V) → Q .normal a' w') l a) : (Code.region id l.toArray true).wp P Q a w :=
  wp_region_quiet (C := fun w' => ∃ V, w' = grw w V) hm hB (grow_drawn w) (by simpa using h ⟨⟨w, Below.refl _ _⟩⟩)
theorem wp_region_grow_tail {P : Program} {id : Nat} {Q : Exit → Act → World → Prop} {a : Act} {w : World} {l : List Oper} (n : Nat) (hm : P.follows .mixedOrders = true) (hB : Region.lexTailB .any l.toArray n = true)
    (h : Nonempty (Gr w) → wpQuiet P l.toArray (fun w' => ∃ V, w' = grw w V) (fun a' => ∀ w', (∃ V, w' = grw w V) → wpList P l.toArray Q (l.drop n) a' w') (l.take n) a) : (Code.region id l.toArray true).wp P Q a w :=
  wp_region_quiet_tail (fun w' => ∃ V, w' = grw w V) n hm hB (grow_drawn w) (h ⟨⟨w, Below.refl _ _⟩⟩)
theorem grow_call {P : Program} {f : FuncId} {args : Array Value} {W : World} {V : Gr W} {v : Value}
    (h : Calls P f args (grw W V) fun e w' => e = .returned v ∧ Below (grw W V).heap.size (grw W V) w') : Calls P f args (grw W V) fun e w'' => e = .returned v ∧ ∃ V', w'' = grw W V' :=
  h.mono fun _ w'' ⟨he, hb⟩ => ⟨he, ⟨w'', below_then (grw_below W V) hb⟩, rfl⟩
theorem grow_same {P : Program} {f : FuncId} {args : Array Value} {W : World} {V : Gr W} {v : Value}
    (h : Calls P f args (grw W V) fun e w' => e = .returned v ∧ w' = grw W V) : Calls P f args (grw W V) fun e w'' => e = .returned v ∧ ∃ V', w'' = grw W V' :=
  h.mono fun _ w'' ⟨he, hb⟩ => ⟨he, V, hb⟩
theorem grow_drew {P : Program} {f : FuncId} {args : Array Value} {W : World} {V : Gr W} {v : Value}
    (h : Calls P f args (grw W V) fun e w' => e = .returned v ∧ ∃ m, w' = (grw W V).drewN m) : Calls P f args (grw W V) fun e w'' => e = .returned v ∧ ∃ V', w'' = grw W V' :=
  h.mono fun _ w'' ⟨he, m, hb⟩ => ⟨he, ⟨w'', by rw [hb]; exact (grw_below W V).trans ⟨rfl, rfl, rfl, Nat.le_refl _, fun _ _ => rfl⟩⟩, rfl⟩
end Go.Proofs.YtenjbgpndkodmacGreatDoor
namespace Go.Proofs.YtenjbgpndkodmacGreatDoor
set_option linter.unusedVariables false
set_option linter.unusedSimpArgs false
open Go.RowKit
/-- The digits of k ahead of what is there. -/
def mtF : Nat → Nat → List UInt8 → List UInt8
  | 0, _, out => out
  | f + 1, k, out => if k = 0 then out else mtF f (k / 10) (UInt8.ofNat (48 + k % 10) :: out)
theorem mtF_zero (f : Nat) (out : List UInt8) : mtF f 0 out = out := by cases f <;> rfl
theorem mtF_pos {f k : Nat} (h : 0 < k) (out : List UInt8) : mtF (f + 1) k out = mtF f (k / 10) (UInt8.ofNat (48 + k % 10) :: out) := by rw [mtF, if_neg (by omega)]
def mtB (k : Nat) : ByteArray := ⟨(109 :: mtF 8 k []).toArray⟩
theorem convM {P : Program} (src e dst : TypeId) (hs : P.underlying src = some (.slice e)) (he : P.underlying e = some (.int .u8)) (hd : P.underlying dst = some .string) (w : World) (b cap : Nat) (x : Int) (hc : w.cell? ⟨b, 0, none⟩ = some (.int .u8 x)) :
    (convert src dst (.slice (some ⟨b, 0, none⟩) 1 cap)).run P w = .ok (.string ⟨#[UInt8.ofNat x.toNat]⟩) w :=
  run_convert_bytes_arg (P := P) w src e hs he b 0 1 cap [x] rfl (fun i hi => by obtain rfl : i = 0 := by omega
                                                                                 exact hc) dst hd
theorem mt_eq (r : Nat) (l : List UInt8) : Value.string (⟨#[48 + UInt8.ofNat r]⟩ ++ ⟨l.toArray⟩) = .string ⟨(UInt8.ofNat (48 + r) :: l).toArray⟩ := by
  have h : (ByteArray.mk #[48 + UInt8.ofNat r] ++ ByteArray.mk l.toArray) = ⟨(UInt8.ofNat (48 + r) :: l).toArray⟩ := by
    apply bytes_ext
    rw [Go.Joins.data_append]; simp
  rw [h]
set_option maxHeartbeats 1000000 in
theorem markText_any (k : Nat) (w : World) (h1 : 0 < k) (h2 : k ≤ 4194304) :
    Calls Tryz.prog 32 #[.int .i64 (k : Int)] w fun e w' => e = .returned (.string (mtB k)) ∧ Below w.heap.size w w' := by
  have kb := fun (w : World) (b cap : Nat) (x : Int) => convM (P := Tryz.prog) 56 5 9 Tryz.underlying56 Tryz.underlying5 Tryz.underlying9 w b cap x
  have hn0 : ¬ (k : Int) ≤ 0 := by omega
  go_enter Tryz.func32, Tryz.ntmps32
  go_wp2
  go_loopw [0, 3] (fun kk o wr => ∃ (f j : Nat) (l : List UInt8), kk = .int .i64 (j : Int) ∧ o = .string ⟨l.toArray⟩ ∧ mtF 8 k [] = mtF f j l ∧ j < 10 ^ f ∧ l.length + f ≤ 8 ∧ j ≤ 4194304 ∧ Below w.heap.size w wr) (fun kk _ _ => (intOf kk).toNat)
  case atStart => exact ⟨8, k, [], rfl, rfl, rfl, by omega, by simp, h2, Below.refl _ _⟩
  case round =>
    obtain ⟨f, j, l, rfl, rfl, hj, hjf, hl, hjm, hbw⟩ := hrel
    have HJ : Hid (mtF 8 k [] = mtF f j l) := hj
    have hsl : (ByteArray.mk l.toArray).size ≤ 8 := by show l.toArray.size ≤ _; simp; omega
    clear hj
    by_cases h0 : 0 < j
    · have hp : (0 : Int) < (j : Int) := by omega
      obtain ⟨f, rfl⟩ : ∃ f', f = f' + 1 := by
        cases f with
        | zero => simp at hjf; omega
        | succ f => exact ⟨f, rfl⟩
      obtain ⟨q, r, hqr, hr⟩ : ∃ q r : Nat, j = 10 * q + r ∧ r < 10 := ⟨j / 10, j % 10, by omega, by omega⟩
      have HS : Hid (mtF 8 k [] = mtF f q (UInt8.ofNat (48 + r) :: l)) := by
        show _ = _
        rw [HJ.out, mtF_pos h0, show j / 10 = q from by omega, show j % 10 = r from by omega]
      have hqf : q < 10 ^ f := by rw [Nat.pow_succ] at hjf; omega
      have HQF := hideB2 hqf
      have HLF := hideB2 hl
      have e1 : IntKind.i64.wrap ((j : Int) / 10) = (q : Int) := by rw [IntKind.wrap_i64]; omega
      have e2 : ((j : Int)).tmod 10 = (r : Int) := by rw [Int.tmod_eq_emod_of_nonneg (by omega)]; omega
      have e3 : IntKind.i64.wrap (48 + (r : Int)) = 48 + (r : Int) := by rw [IntKind.wrap_i64]; omega
      have e4 : IntKind.u8.wrap (48 + (r : Int)) = 48 + (r : Int) := by rw [IntKind.wrap_u8]; omega
      have HQ : Hid (j = 10 * q + r) := hqr
      have hl9 : l.length ≤ 8 := by omega
      clear hqr hqf hl hjf
      go_wp2
      go_round
      case rel => exact ⟨f, q, UInt8.ofNat (48 + r) :: l, by go_num, mt_eq r l, HS.out, HQF.out, by have := HLF.out; simp; omega, by have := HQ.out; omega, hbw.alloc hbw.size _⟩
      case measure => have := HQ.out; simp [intOf] <;> omega
    · have hp : ¬ (0 : Int) < (j : Int) := by omega
      have HE : Hid (mtB k = ⟨#[109]⟩ ++ ⟨l.toArray⟩) := by
        show _ = _
        obtain rfl : j = 0 := by omega
        unfold mtB; rw [HJ.out, mtF_zero]
        apply bytes_ext
        rw [Go.Joins.data_append]; simp
      go_wp2
      go_ret
      exact ⟨ret_str HE.out, hbw⟩
theorem grown_then {w w1 w2 : World} {r : Option Nat} (h : w.grownBy w1 r) (hb : Below w1.heap.size w1 w2) : w.grownBy w2 r :=
  ⟨hb.os.trans h.os, hb.tape.trans h.tape, hb.output.trans h.output, Nat.le_trans h.size hb.size, fun k hk hn => by rw [hb.block k (Nat.lt_of_lt_of_le hk h.size)]; exact h.block k hk hn⟩
theorem grown_set {w w1 : World} {g : Nat} (h : w.grownBy w1 (some g)) (o : Nat) (u : Value) : w.grownBy (w1.setCell ⟨g, o, none⟩ u) (some g) :=
  World.grownBy.trans h ⟨rfl, rfl, rfl, by simp [World.setCell], fun k _ hne => Below.heap_setCell _ _ _ _ (fun e => hne (by simp at e; rw [e]))⟩
theorem grown_refl (w : World) (r : Option Nat) : w.grownBy w r := ⟨rfl, rfl, rfl, Nat.le_refl _, fun _ _ _ => rfl⟩
theorem Blk.gb {w w' : World} {b : Nat} {c : Array Value} {t : TypeId} {r : Option Nat} (h : Blk w b c t) (k : w.grownBy w' r) (hne : r ≠ some b) : Blk w' b c t := by
  unfold Blk at *
  rw [k.block b (Array.getElem?_eq_some_iff.1 h).1 (fun e => hne e.symm)]
  exact h
theorem grown_below {w w1 w2 : World} {B : Nat} {r : Option Nat} (h : Below B w w1) (k : w1.grownBy w2 r) (hr : ∀ g, r = some g → B ≤ g) (hB : B ≤ w1.heap.size) : Below B w w2 :=
  h.trans ⟨k.os, k.tape, k.output, k.size, fun b hb => k.block b (by omega) (fun e => by have := hr b e.symm; omega)⟩
end Go.Proofs.YtenjbgpndkodmacGreatDoor
namespace Go.Proofs.YtenjbgpndkodmacGreatDoor
set_option linter.unusedVariables false
set_option linter.unusedSimpArgs false
open Go.RowKit
theorem made10 (z : Array Value) (hz : z.size = 10) (n j i : Nat) (h : j < n) (hi : i < 10) : (madeCells z (n * 10)).toList[j * 10 + i]? = z[i]? := by
  have h1 : j * 10 + i < n * 10 := by omega
  have e1 : (j * 10 + i) % 10 = i := by omega
  have h2 : i < z.size := by omega
  simp [madeCells, h1, hz, e1, h2]
  rw [Array.getElem?_eq_getElem h2, getElem!_pos z i h2]
theorem rowX_made {w w' : World} {n : Nat} (h : w'.ownsRow w.heap.size 45 10 (.slice (some ⟨w.heap.size, 0, none⟩) n n) n (madeCells (lxV lx0).cells (n * 10)).toList) : RowX w' w.heap.size 0 (List.replicate n lx0) := by
  have hat : ∀ j, j < n → lxAt (List.replicate n lx0) j = lx0 := fun j hj => by rw [lxAt_get (by simpa using hj)]; simp
  have key : ∀ j i, j < n → i < 10 → w'.cell? ⟨w.heap.size, 0 + j * 10 + i, none⟩ = (lxV lx0).cells[i]? := by
    intro j i hj hi
    rw [Nat.zero_add, h.cellAt (j * 10 + i) (by omega)]
    exact made10 _ rfl n j i hj hi
  refine ⟨fun j hj => ?_, fun j => h.frozenAt j, (h.lt w.heap.size rfl).2⟩
  rw [List.length_replicate] at hj
  rw [hat j hj]
  exact ⟨key j 0 hj (by omega), key j 1 hj (by omega), key j 2 hj (by omega), key j 3 hj (by omega), key j 4 hj (by omega), key j 5 hj (by omega), key j 6 hj (by omega), key j 7 hj (by omega), key j 8 hj (by omega), key j 9 hj (by omega)⟩
theorem wp_mkX {ops : Array Oper} {rest : List Oper} {o : Oper} {a : Act} {Q : Exit → Act → World → Prop} {w : World} (hg : o.guard = none) (l c : Operand) (hop : o.op = Op.makeSlice 24 l c)
    (n : Nat) (L C : Int) (hl : a.eval l = .int .i64 L) (hc : a.eval c = .int .i64 C) (hL : L = (n : Int)) (hC : C = (n : Int)) (hn : n ≤ 1048576)
    (hK : ∀ w', RowX w' w.heap.size 0 (List.replicate n lx0) → Below w.heap.size w w' → wpList Tryz.prog ops Q rest (a.put o.dst (.slice (some ⟨w.heap.size, 0, none⟩) n n)) w') :
    wpList Tryz.prog ops Q (o :: rest) a w := by
  obtain ⟨i0, hi, hz0, hz1, hz2⟩ := info_parts Tryz.infoX
  refine wpList_make_full w hg l c 24 hop w.heap.size 45 i0 _ 10 Tryz.underlying24 hi hz0 hz1 .i64 .i64 L C n hl hc hL hC (by rw [hz2]; omega) (by unfold maxLen; omega) (Nat.le_refl _) ?_
  intro w' hown hgr
  exact hK w' (rowX_made hown) ⟨hgr.os, hgr.tape, hgr.output, hgr.size, fun k hk => hgr.block k hk (by simp)⟩
set_option maxHeartbeats 1000000 in
theorem szLine_any (x : Lx) (left : Int) (w : World) (hd : ZX x) (h0 : 0 ≤ left) (h1 : left ≤ 1048576) :
    Calls Tryz.prog 23 #[lxV x, .int .i64 left] w fun e w' => e = .returned (.int .i64 (if (szX x : Int) ≤ left then left - szX x else -1)) ∧ Below w.heap.size w w' := by
  obtain ⟨ke, ti, si, me, st, la, rv, se, wh, sz⟩ := x
  have HB := hideB2 (below_a1 w (.cells #[.string ke, .int .i64 ti, .int .i64 si, .string me, .int .i64 st, .string la, .bool rv, .int .i64 se, .int .i64 wh, .int .i64 sz] 42))
  have e0 : (szX ⟨ke, ti, si, me, st, la, rv, se, wh, sz⟩ : Int) = (ke.size : Int) + (me.size : Int) + (la.size : Int) := by simp [szX]
  obtain ⟨d1, d2, d3⟩ := hd
  unfold maxLen at d1 d2 d3
  simp only at d1 d2 d3
  rw [e0]
  clear e0
  unfold lxV
  simp only
  by_cases h : (ke.size : Int) + (me.size : Int) + (la.size : Int) ≤ left
  · rw [if_pos h]
    go_enter Tryz.func23, Tryz.ntmps23
    go_wp2
    go_ret
    exact ⟨ret_int (by omega), HB.out⟩
  · rw [if_neg h]
    by_cases h2 : (ke.size : Int) ≤ left
    · by_cases h3 : (ke.size : Int) + (me.size : Int) ≤ left
      · go_enter Tryz.func23, Tryz.ntmps23
        go_wp2
        go_ret
        exact ⟨rfl, HB.out⟩
      · go_enter Tryz.func23, Tryz.ntmps23
        go_wp2
        go_ret
        exact ⟨rfl, HB.out⟩
    · go_enter Tryz.func23, Tryz.ntmps23
      go_wp2
      go_ret
      exact ⟨rfl, HB.out⟩
set_option maxHeartbeats 2000000 in
theorem szLineS_left (a : Option Addr) (len cap : Nat) (l : List Lx) (left : Int) (w : World) (hx : ArgX w a len l) (hl : len ≤ maxLen) (hd : ∀ j, j < len → ZX (lxAt l j)) (hl0 : 0 ≤ left) (hl1 : left ≤ 1048576) :
    Calls Tryz.prog 8 #[.slice a len cap, .int .i64 left] w fun e w' => e = .returned (.int .i64 (if (len : Int) + (totX l : Int) ≤ left then left - (len : Int) - (totX l : Int) else -1)) ∧ Below w.heap.size w w' := by
  obtain ⟨hlen, hx⟩ := hx
  have HL := hideB2 hlen
  have HX := hideB2 hx
  have HD := hideB2 hd
  clear hlen hx hd
  unfold maxLen at hl
  generalize hR : (if (len : Int) + (totX l : Int) ≤ left then left - (len : Int) - (totX l : Int) else -1) = R
  have HR := hideB2 hR
  clear hR
  by_cases h0 : (len : Int) ≤ left
  · go_enter Tryz.func8, Tryz.ntmps8
    go_wp2
    go_loopw [1, 5] (fun x i wr => ∃ k : Nat, k ≤ len ∧ i = .int .i64 k ∧ x = .int .i64 (left - (len : Int) - (totX (l.take k) : Int)) ∧ (len : Int) + (totX (l.take k) : Int) ≤ left ∧ Below w.heap.size w wr) (fun _ i _ => len - (intOf i).toNat)
    case atStart => exact ⟨0, Nat.zero_le _, rfl, by simp [totX], by simp [totX]; exact h0, Below.refl _ _⟩
    case round =>
      obtain ⟨k, hk, rfl, rfl, hle, hb⟩ := hrel
      by_cases hlt : k < len
      · rcases HX.out with h0 | ⟨b, off, rfl, hbl, hcs⟩
        · omega
        · obtain ⟨p0, p1, p2, p3, p4, p5, p6, p7, p8, p9⟩ := (hcs k hlt).later hb hbl
          have hnx := totX_next l k (by rw [HL.out]; exact hlt)
          have hat := totX_at l k (by rw [HL.out]; exact hlt)
          have hdk := HD.out k hlt
          have HNX := hideB2 hnx
          have HAT := hideB2 hat
          have HSZ := hideB2 (fun W => szLine_any (lxAt l k) (left - (len : Int) - (totX (l.take k) : Int)) W hdk (by omega) (by omega))
          clear hcs HX hnx hat hdk
          generalize lxAt l k = x at *
          obtain ⟨ke, ti, si, me, st, la, rv, se, wh, sz⟩ := x
          simp only at p0 p1 p2 p3 p4 p5 p6 p7 p8 p9
          generalize totX (l.take k) = t at *
          go_wp2_with fail
          refine (HSZ.out _).mono ?_
          rintro e w2 ⟨rfl, hb2⟩
          have HB2 := hideB2 (hb.trans (hb2.mono hb.size))
          clear hb hb2 p0 p1 p2 p3 p4 p5 p6 p7 p8 p9 HSZ
          generalize szX ⟨ke, ti, si, me, st, la, rv, se, wh, sz⟩ = z at *
          by_cases hf : (z : Int) ≤ left - (len : Int) - (t : Int)
          · rw [if_pos hf]
            go_wp2
            exact ⟨⟨k + 1, by omega, by go_num, by rw [HNX.out]; congr 1; omega, by rw [HNX.out]; omega, HB2.out⟩, by simp [intOf]; omega⟩
          · rw [if_neg hf]
            go_wp2
            go_ret
            exact ⟨ret_int (by rw [← HR.out, if_neg]; have := HAT.out; omega), HB2.out⟩
      · obtain rfl : k = len := by omega
        rw [List.take_of_length_le (by rw [HL.out]; exact Nat.le_refl _)] at hle
        rw [List.take_of_length_le (by rw [HL.out]; exact Nat.le_refl _)]
        have HF := hideB2 (show left - (k : Int) - (totX l : Int) = R by rw [← HR.out, if_pos hle])
        go_wp2
        go_ret
        exact ⟨ret_int HF.out.symm, hb⟩
  · have hn : ¬ ((len : Int) + (totX l : Int) ≤ left) := by omega
    have HF := hideB2 (show -1 = R by rw [← HR.out, if_neg hn])
    go_enter Tryz.func8, Tryz.ntmps8
    go_wp2
    go_ret
    exact ⟨ret_int HF.out.symm, Below.refl _ _⟩
set_option maxHeartbeats 2000000 in
theorem toLine_any (x : Lx) (w : World) :
    Calls Tryz.prog 27 #[lxV x] w fun e w' => e = .returned (lxV x) ∧ Below w.heap.size w w' := by
  obtain ⟨ke, ti, si, me, st, la, rv, se, wh, sz⟩ := x
  unfold lxV
  simp only
  go_enter Tryz.func27, Tryz.ntmps27
  go_wp2
  refine bodyPost_ret (v := .agg #[.string ke, .int .i64 ti, .int .i64 si, .string me, .int .i64 st, .string la, .bool rv, .int .i64 se, .int .i64 wh, .int .i64 sz]) (by simp [results, Tryz.results27, go_sem]) rfl ⟨rfl, below_a3 w _ _ _⟩
theorem toLine_fl (ke : ByteArray) (ti si : Int) (me : ByteArray) (st : Int) (la : ByteArray) (rv : Bool) (se wh sz : Int) (w : World) :
    Calls Tryz.prog 27 #[.agg #[.string ke, .int .i64 ti, .int .i64 si, .string me, .int .i64 st, .string la, .bool rv, .int .i64 se, .int .i64 wh, .int .i64 sz]] w fun e w' => e = .returned (.agg #[.string ke, .int .i64 ti, .int .i64 si, .string me, .int .i64 st, .string la, .bool rv, .int .i64 se, .int .i64 wh, .int .i64 sz]) ∧ Below w.heap.size w w' := toLine_any ⟨ke, ti, si, me, st, la, rv, se, wh, sz⟩ w
set_option maxHeartbeats 4000000 in
theorem toLineS_any (a : Option Addr) (len cap : Nat) (l : List Lx) (w : World) (hx : ArgX w a len l) (hl : len ≤ 1048576) :
    Calls Tryz.prog 10 #[.slice a len cap] w fun e w' => e = .returned (.slice (some ⟨w.heap.size, 0, none⟩) len len) ∧ RowX w' w.heap.size 0 l ∧ Below w.heap.size w w' := by
  obtain ⟨hlen, hx⟩ := hx
  have HL := hideB2 hlen
  have HX := hideB2 hx
  clear hlen hx
  go_enter Tryz.func10, Tryz.ntmps10
  go_wp2_with (refine wp_mkX rfl _ _ rfl len _ _ rfl rfl rfl rfl (by omega) ?_; intro W1 hr1 hb1; have HR := hideB2 hr1; have HB := hideB2 hb1; clear hr1 hb1)
  go_loopw [4] (fun i wr => ∃ k : Nat, k ≤ len ∧ i = .int .i64 k ∧ RowX wr w.heap.size 0 (l.take k ++ List.replicate (len - k) lx0) ∧ Below w.heap.size w wr) (fun i _ => len - (intOf i).toNat)
  case atStart => exact ⟨0, Nat.zero_le _, rfl, by simpa using HR.out, HB.out⟩
  case round =>
    obtain ⟨k, hk, rfl, hrow, hb⟩ := hrel
    clear HR HB
    have htl : (l.take k).length = k := by rw [List.length_take, HL.out]; omega
    by_cases hlt : k < len
    · rcases HX.out with h0 | ⟨b, off, rfl, hbl, hcs⟩
      · omega
      · obtain ⟨p0, p1, p2, p3, p4, p5, p6, p7, p8, p9⟩ := (hcs k hlt).later hb hbl
        have hrl : (l.take k ++ List.replicate (len - k) lx0).length = len := by rw [List.length_append, htl, List.length_replicate]; omega
        have e : ∀ x, lxAt l k = x → (l.take k ++ List.replicate (len - k) lx0).set k x = l.take (k + 1) ++ List.replicate (len - (k + 1)) lx0 := by
          intro x hx0
          have hkx : k < l.length := by rw [HL.out]; exact hlt
          rw [List.set_append_right _ _ (by rw [htl]; exact Nat.le_refl _), htl, Nat.sub_self, show len - k = (len - (k + 1)) + 1 by omega, List.replicate_succ, List.set_cons_zero, takeX_next l k hkx, List.append_assoc, hx0]
          rfl
        generalize hx0 : lxAt l k = x at *
        have he := e x rfl
        clear e hx0
        obtain ⟨ke, ti, si, me, st, la, rv, se, wh, sz⟩ := x
        simp only at p0 p1 p2 p3 p4 p5 p6 p7 p8 p9
        go_wp2_with fail
        refine (toLine_fl _ _ _ _ _ _ _ _ _ _ _).mono ?_
        rintro e w2 ⟨rfl, hb2⟩
        have hrow2 := hrow.keep hb2
        have hbw2 := hb.trans (hb2.mono hb.size)
        obtain ⟨d0, d1, d2, d3, d4, d5, d6, d7, d8, d9⟩ := hrow2.dat k (by rw [hrl]; exact hlt)
        rw [Nat.zero_add] at d0 d1 d2 d3 d4 d5 d6 d7 d8 d9
        have f0 := hrow2.free (k * 10)
        have f1 := hrow2.free (k * 10 + 1)
        have f2 := hrow2.free (k * 10 + 2)
        have f3 := hrow2.free (k * 10 + 3)
        have f4 := hrow2.free (k * 10 + 4)
        have f5 := hrow2.free (k * 10 + 5)
        have f6 := hrow2.free (k * 10 + 6)
        have f7 := hrow2.free (k * 10 + 7)
        have f8 := hrow2.free (k * 10 + 8)
        have f9 := hrow2.free (k * 10 + 9)
        have R := hrow2.set k ⟨ke, ti, si, me, st, la, rv, se, wh, sz⟩ (by rw [hrl]; exact hlt)
        rw [he, Nat.zero_add] at R
        have HRB := hideB2 (below_set10 hbw2 (Nat.le_refl _) (k * 10) ⟨ke, ti, si, me, st, la, rv, se, wh, sz⟩)
        unfold set10 at R
        simp only at R
        have HR := hideB2 R
        clear R he hrow hb hrl htl hcs HX hrow2 hbw2 p0 p1 p2 p3 p4 p5 p6 p7 p8 p9 hb2
        generalize lxAt (l.take k ++ List.replicate (len - k) lx0) k = y at *
        obtain ⟨yke, yti, ysi, yme, yst, yla, yrv, yse, ywh, ysz⟩ := y
        simp only at d0 d1 d2 d3 d4 d5 d6 d7 d8 d9
        go_wp2
        refine ⟨⟨k + 1, by omega, by go_num, HR.out, ?_⟩, by simp [intOf]; omega⟩
        exact HRB.out
    · obtain rfl : k = len := by omega
      rw [Nat.sub_self, List.replicate_zero, List.append_nil, List.take_of_length_le (by rw [HL.out]; exact Nat.le_refl _)] at hrow
      go_wp2
      go_ret
      exact ⟨rfl, hrow, hb⟩
set_option maxHeartbeats 2000000 in
theorem eqLine_same (x : Lx) (w : World) :
    Calls Tryz.prog 31 #[lxV x, lxV x] w fun e w' => e = .returned (.bool true) ∧ Below w.heap.size w w' := by
  obtain ⟨ke, ti, si, me, st, la, rv, se, wh, sz⟩ := x
  unfold lxV
  simp only
  have hs1 : (ke.toList != ke.toList) = false := by simp
  have hs2 : (me.toList != me.toList) = false := by simp
  have hs3 : (la.toList != la.toList) = false := by simp
  cases rv
  all_goals
    go_enter Tryz.func31, Tryz.ntmps31
    go_wp2
    go_ret
    exact ⟨rfl, below_a2 w _ _⟩
set_option maxHeartbeats 2000000 in
theorem eqLineS_same (va vb : Value) (l : List Lx) (w : World) (ha : SlX w va l) (hb : SlX w vb l) (hm : l.length ≤ 1048576) :
    Calls Tryz.prog 12 #[va, vb] w fun e w' => e = .returned (.bool true) ∧ Below w.heap.size w w' := by
  obtain ⟨a1, c1, rfl⟩ := ha.form
  obtain ⟨a2, c2, rfl⟩ := hb.form
  have HA := hideB2 ha
  have HB := hideB2 hb
  clear ha hb
  generalize hn : l.length = n at *
  have HN := hideB2 hn
  clear hn
  go_enter Tryz.func12, Tryz.ntmps12
  go_wp2
  go_loopw [5] (fun i wr => ∃ k : Nat, k ≤ n ∧ i = .int .i64 k ∧ Below w.heap.size w wr) (fun i _ => n - (intOf i).toNat)
  case atStart => exact ⟨0, Nat.zero_le _, rfl, Below.refl _ _⟩
  case round =>
    obtain ⟨k, hk, rfl, hb⟩ := hrel
    by_cases hlt : k < n
    · obtain ⟨b1, o1, rfl, hr1⟩ := HA.out.row (by rw [HN.out]; omega)
      obtain ⟨b2, o2, rfl, hr2⟩ := HB.out.row (by rw [HN.out]; omega)
      obtain ⟨p0, p1, p2, p3, p4, p5, p6, p7, p8, p9⟩ := (hr1.keep hb).dat k (by rw [HN.out]; exact hlt)
      obtain ⟨q0, q1, q2, q3, q4, q5, q6, q7, q8, q9⟩ := (hr2.keep hb).dat k (by rw [HN.out]; exact hlt)
      clear hr1 hr2
      have HEQ := hideB2 (fun W => eqLine_same (lxAt l k) W)
      generalize lxAt l k = x at *
      obtain ⟨ke, ti, si, me, st, la, rv, se, wh, sz⟩ := x
      simp only at p0 p1 p2 p3 p4 p5 p6 p7 p8 p9 q0 q1 q2 q3 q4 q5 q6 q7 q8 q9
      have HBW := hideB2 hb
      clear hb
      go_wp2
      go_region_with (go_at_call 31; refine (HEQ.out _).mono ?_; rintro e w2 ⟨rfl, hb2⟩)
      all_goals
        have HB3 := hideB2 (HBW.out.drew.trans (hb2.mono HBW.out.drew.size))
        clear hb2
        go_wp2
        exact ⟨⟨k + 1, by omega, by go_num, HB3.out⟩, by simp [intOf]; omega⟩
    · go_wp2
      go_ret
      exact ⟨rfl, hb⟩
end Go.Proofs.YtenjbgpndkodmacGreatDoor
namespace Go.Proofs.YtenjbgpndkodmacGreatDoor
set_option linter.unusedVariables false
set_option linter.unusedSimpArgs false
open Go.RowKit

def decB (u : Nat) : ByteArray := ⟨(Lib.decDigits u).toArray⟩
theorem decB_list (u : Nat) : (decB u).data.toList = Lib.decDigits u := rfl
def valL (l : List UInt8) : Nat := l.foldl (fun n b => n * 10 + (b.toNat - 48)) 0
theorem valL_snoc (l : List UInt8) (b : UInt8) : valL (l ++ [b]) = valL l * 10 + (b.toNat - 48) := by simp [valL]
def allDig (l : List UInt8) : Bool := l.all dig8
theorem dig8_iff (b : UInt8) : dig8 b = true ↔ 48 ≤ b.toNat ∧ b.toNat ≤ 57 := by
  unfold dig8 digP
  simp
  omega
theorem dig8_no (b : UInt8) (h : dig8 b = false) : b.toNat < 48 ∨ 57 < b.toNat := by
  have : ¬ (48 ≤ b.toNat ∧ b.toNat ≤ 57) := fun hh => by rw [(dig8_iff b).2 hh] at h; cases h
  omega
def rdec (s : ByteArray) : Option Nat := if 0 < s.size ∧ s.size ≤ 15 ∧ allDig s.data.toList = true ∧ Lib.decDigits (valL s.data.toList) = s.data.toList then some (valL s.data.toList) else none

theorem snoc_ind {α : Type} {p : List α → Prop} (h0 : p []) (h1 : ∀ l a, p l → p (l ++ [a])) : ∀ l, p l := by
  intro l
  have : ∀ r : List α, p r.reverse := by
    intro r
    induction r with
    | nil => exact h0
    | cons a r ih => rw [List.reverse_cons]; exact h1 _ _ ih
  simpa using this l.reverse

theorem valL_lt (l : List UInt8) (h : allDig l = true) : valL l < 10 ^ l.length := by
  revert h
  refine snoc_ind (p := fun l => allDig l = true → valL l < 10 ^ l.length) ?_ ?_ l
  · intro _; simp [valL]
  · intro q b ih h
    have hq : allDig q = true := by unfold allDig at h ⊢; rw [List.all_append] at h; simp at h; simpa using h.1
    have hb : dig8 b = true := by unfold allDig at h; rw [List.all_append] at h; simp at h; exact h.2
    have := ih hq
    have hb' := (dig8_iff b).1 hb
    rw [valL_snoc, List.length_append, List.length_singleton, Nat.pow_succ]
    omega
theorem valL_ge (l : List UInt8) (h : allDig l = true) (hl : l ≠ []) (hz : l.head? ≠ some 48) : 10 ^ (l.length - 1) ≤ valL l := by
  revert h hl hz
  refine snoc_ind (p := fun l => allDig l = true → l ≠ [] → l.head? ≠ some 48 → 10 ^ (l.length - 1) ≤ valL l) ?_ ?_ l
  · intro _ h; exact absurd rfl h
  · intro q b ih h _ hz
    have hq : allDig q = true := by unfold allDig at h ⊢; rw [List.all_append] at h; simp at h; simpa using h.1
    have hb : dig8 b = true := by unfold allDig at h; rw [List.all_append] at h; simp at h; exact h.2
    have hb' := (dig8_iff b).1 hb
    rw [valL_snoc, List.length_append, List.length_singleton]
    by_cases e : q = []
    · subst e
      have hne : b.toNat ≠ 48 := by
        intro hh
        apply hz
        have : b = 48 := UInt8.toNat_inj.1 hh
        rw [this]; rfl
      simp [valL]
      omega
    · have hz' : q.head? ≠ some 48 := by
        intro hh; apply hz; rw [List.head?_append, hh]; rfl
      have := ih hq e hz'
      have hlen : q.length + 1 - 1 = (q.length - 1) + 1 := by have := List.length_pos_iff.2 e; omega
      rw [hlen, Nat.pow_succ]
      omega
theorem decDigits_step (u : Nat) (h : ¬ u < 10) : Lib.decDigits u = Lib.decDigits (u / 10) ++ [UInt8.ofNat (48 + u % 10)] := by
  rw [Lib.decDigits, dif_neg h]
theorem ofNat_dig (b : UInt8) (h : 48 ≤ b.toNat) : UInt8.ofNat (48 + (b.toNat - 48)) = b := by
  rw [show 48 + (b.toNat - 48) = b.toNat from by omega]; simp
theorem decDigits_val (l : List UInt8) (h : allDig l = true) (hl : l ≠ []) (hz : l.head? ≠ some 48) : Lib.decDigits (valL l) = l := by
  revert h hl hz
  refine snoc_ind (p := fun l => allDig l = true → l ≠ [] → l.head? ≠ some 48 → Lib.decDigits (valL l) = l) ?_ ?_ l
  · intro _ h; exact absurd rfl h
  · intro q b ih h _ hz
    have hq : allDig q = true := by unfold allDig at h ⊢; rw [List.all_append] at h; simp at h; simpa using h.1
    have hb : dig8 b = true := by unfold allDig at h; rw [List.all_append] at h; simp at h; exact h.2
    have hb' := (dig8_iff b).1 hb
    rw [valL_snoc]
    by_cases e : q = []
    · subst e
      have : valL [] * 10 + (b.toNat - 48) = b.toNat - 48 := by simp [valL]
      rw [this, Lib.decDigits, dif_pos (by omega), ofNat_dig b hb'.1]; rfl
    · have hz' : q.head? ≠ some 48 := by
        intro hh; apply hz; rw [List.head?_append, hh]; rfl
      have h1 := valL_ge q hq e hz'
      have h2 : 1 ≤ 10 ^ (q.length - 1) := Nat.one_le_pow _ _ (by decide)
      rw [decDigits_step _ (by omega)]
      have e1 : (valL q * 10 + (b.toNat - 48)) / 10 = valL q := by omega
      have e2 : (valL q * 10 + (b.toNat - 48)) % 10 = b.toNat - 48 := by omega
      rw [e1, e2, ih hq e hz', ofNat_dig b hb'.1]
theorem decDigits_ne_nil (u : Nat) : Lib.decDigits u ≠ [] := by
  by_cases h : u < 10
  · rw [Lib.decDigits, dif_pos h]; simp
  · rw [decDigits_step u h]; simp
theorem decDigits_head (u : Nat) (h : (Lib.decDigits u).head? = some 48) : u = 0 := by
  induction u using Nat.strongRecOn with
  | _ u ih =>
    by_cases hu : u < 10
    · rw [Lib.decDigits, dif_pos hu] at h
      have h' : UInt8.ofNat (48 + u) = 48 := Option.some.inj h
      have : (UInt8.ofNat (48 + u)).toNat = (48 : UInt8).toNat := by rw [h']
      rw [UInt8.toNat_ofNat'] at this
      have e : (48 : UInt8).toNat = 48 := rfl
      omega
    · rw [decDigits_step u hu, List.head?_append] at h
      have hne := decDigits_ne_nil (u / 10)
      have : (Lib.decDigits (u / 10)).head? = some 48 := by
        cases hq : Lib.decDigits (u / 10) with
        | nil => exact absurd hq hne
        | cons a r => rw [hq] at h; simpa using h
      have := ih (u / 10) (by omega) this
      omega
theorem allDig_dec (u : Nat) : allDig (Lib.decDigits u) = true := by
  induction u using Nat.strongRecOn with
  | _ u ih =>
    have one : ∀ d, d < 10 → dig8 (UInt8.ofNat (48 + d)) = true := by
      intro d hd
      rw [dig8_iff]
      simp
      omega
    by_cases hu : u < 10
    · rw [Lib.decDigits, dif_pos hu]
      show (dig8 (UInt8.ofNat (48 + u)) && true) = true
      rw [one u hu]; rfl
    · rw [decDigits_step u hu]
      unfold allDig
      rw [List.all_append]
      have := ih (u / 10) (by omega)
      unfold allDig at this
      rw [this]
      show (true && (dig8 (UInt8.ofNat (48 + u % 10)) && true)) = true
      rw [one (u % 10) (by omega)]; rfl
theorem valL_dec (u : Nat) : valL (Lib.decDigits u) = u := by
  induction u using Nat.strongRecOn with
  | _ u ih =>
    have one : ∀ d, d < 10 → (UInt8.ofNat (48 + d)).toNat - 48 = d := by
      intro d hd; simp; omega
    by_cases hu : u < 10
    · rw [Lib.decDigits, dif_pos hu]
      have := one u hu
      simp [valL] at this ⊢
      omega
    · rw [decDigits_step u hu, valL_snoc, ih (u / 10) (by omega), one (u % 10) (by omega)]
      omega
theorem decDigits_len (u : Nat) (h : u ≤ 999999999999999) : (Lib.decDigits u).length ≤ 15 := by
  rw [Lib.decDigits_length]
  rcases Nat.lt_or_ge 15 (Lib.nDigits u) with h1 | h1
  · exfalso
    have hl := valL_ge (Lib.decDigits u) (allDig_dec u) (decDigits_ne_nil u) (by
      intro hh
      have := decDigits_head u hh
      subst this
      rw [Lib.nDigits_small (by omega)] at h1
      omega)
    rw [valL_dec, Lib.decDigits_length] at hl
    have h2 : 10 ^ 15 ≤ 10 ^ (Lib.nDigits u - 1) := Nat.pow_le_pow_right (by decide) (by omega)
    have h3 : (10 : Nat) ^ 15 = 1000000000000000 := by decide
    omega
  · exact h1

/-! What the loops of ReadDec come to. -/
theorem allDig_take_succ (s : ByteArray) (k : Nat) (hk : k < s.size) : s.data.toList.take (k + 1) = s.data.toList.take k ++ [at8 s k] := by
  have hl : k < s.data.toList.length := by rw [len_data]; exact hk
  rw [List.take_succ_eq_append_getElem hl]
  simp [at8, List.getD, List.getElem?_eq_getElem hl]
theorem allDig_snoc (l : List UInt8) (b : UInt8) (h : allDig l = true) (hb : dig8 b = true) : allDig (l ++ [b]) = true := by
  unfold allDig at *
  rw [List.all_append, h]
  simp [hb]
theorem allDig_no (s : ByteArray) (k : Nat) (hk : k < s.size) (h : dig8 (at8 s k) = false) : allDig s.data.toList = false := by
  have hl : k < s.data.toList.length := by rw [len_data]; exact hk
  unfold allDig
  rw [List.all_eq_false]
  refine ⟨s.data.toList[k], List.getElem_mem hl, ?_⟩
  simp [at8, List.getD, List.getElem?_eq_getElem hl] at h
  simp [h]
theorem rdec_nodig (s : ByteArray) (k : Nat) (hk : k < s.size) (h : dig8 (at8 s k) = false) : rdec s = none := by
  unfold rdec
  rw [if_neg]
  rintro ⟨_, _, h3, _⟩
  rw [allDig_no s k hk h] at h3
  cases h3
theorem rdec_size (s : ByteArray) (h : s.size = 0 ∨ 15 < s.size) : rdec s = none := by
  unfold rdec
  rw [if_neg]
  rintro ⟨h1, h2, _⟩
  omega
theorem rdec_ne (s : ByteArray) (h : Lib.decDigits (valL s.data.toList) ≠ s.data.toList) : rdec s = none := by
  unfold rdec
  rw [if_neg]
  rintro ⟨_, _, _, h4⟩
  exact h h4
theorem rdec_yes (s : ByteArray) (h0 : 0 < s.size) (h1 : s.size ≤ 15) (h2 : allDig s.data.toList = true) (h3 : Lib.decDigits (valL s.data.toList) = s.data.toList) : rdec s = some (valL s.data.toList) := by
  unfold rdec
  rw [if_pos ⟨h0, h1, h2, h3⟩]
theorem head_at8 (s : ByteArray) (h : 0 < s.size) : s.data.toList.head? = some (at8 s 0) := by
  have hl : 0 < s.data.toList.length := by rw [len_data]; exact h
  rw [List.head?_eq_getElem?]
  simp [at8, List.getD, List.getElem?_eq_getElem hl]
/-- A 0 ahead of other digits. -/
theorem rdec_zero (s : ByteArray) (h : 0 < s.size) (h0 : (at8 s 0).toNat = 48) (hne : s.data.toList ≠ [48]) : rdec s = none := by
  apply rdec_ne
  intro hh
  have h1 := head_at8 s h
  have : at8 s 0 = 48 := UInt8.toNat_inj.1 h0
  rw [this, ← hh] at h1
  have hz := decDigits_head _ h1
  rw [hz] at hh
  apply hne
  rw [← hh, Lib.decDigits, dif_pos (by omega)]
  rfl
/-- Behind the last round. -/
theorem rdec_end (s : ByteArray) (h : 0 < s.size) (hd : allDig s.data.toList = true) (hz : (at8 s 0).toNat ≠ 48 ∨ s.data.toList = [48]) (hm : valL s.data.toList ≤ 999999999999999) : rdec s = some (valL s.data.toList) := by
  have hne : s.data.toList ≠ [] := by
    intro hh; have := len_data s; rw [hh] at this; simp at this; omega
  rcases hz with hz | hz
  · have hh : s.data.toList.head? ≠ some 48 := by
      rw [head_at8 s h]; intro e; apply hz; injection e with e; rw [e]; rfl
    have h1 := valL_ge _ hd hne hh
    refine rdec_yes s h ?_ hd (decDigits_val _ hd hne hh)
    rcases Nat.lt_or_ge 15 s.size with h2 | h2
    · exfalso
      have h3 : 10 ^ 15 ≤ 10 ^ (s.data.toList.length - 1) := Nat.pow_le_pow_right (by decide) (by rw [len_data]; omega)
      have h4 : (10 : Nat) ^ 15 = 1000000000000000 := by decide
      omega
    · exact h2
  · have hs : s.size = 1 := by rw [← len_data, hz]; rfl
    refine rdec_yes s h (by omega) hd ?_
    rw [hz]
    have : valL [48] = 0 := by decide
    rw [this, Lib.decDigits, dif_pos (by omega)]
    rfl
theorem allDig_take (l : List UInt8) (k : Nat) (h : allDig l = true) : allDig (l.take k) = true := by
  unfold allDig at *
  rw [List.all_eq_true] at *
  intro x hx
  exact h x (List.mem_of_mem_take hx)
/-- A value that has passed the bound. -/
theorem rdec_big (s : ByteArray) (k : Nat) (hk : k ≤ s.size) (hd : allDig (s.data.toList.take k) = true) (hm : 999999999999999 < valL (s.data.toList.take k)) : rdec s = none := by
  apply rdec_size
  right
  rcases Nat.lt_or_ge 15 s.size with h2 | h2
  · exact h2
  · exfalso
    have h1 := valL_lt _ hd
    have h3 : 10 ^ (s.data.toList.take k).length ≤ 10 ^ 15 := Nat.pow_le_pow_right (by decide) (by simp; omega)
    have h4 : (10 : Nat) ^ 15 = 1000000000000000 := by decide
    omega
end Go.Proofs.YtenjbgpndkodmacGreatDoor
namespace Go.Proofs.YtenjbgpndkodmacGreatDoor
set_option linter.unusedVariables false
set_option linter.unusedSimpArgs false
open Go.RowKit

/-- The last p digits of n. -/
def digL (n : Nat) : Nat → List UInt8
  | 0 => []
  | p + 1 => UInt8.ofNat (48 + n / 10 ^ p % 10) :: digL n p
def digB (n p : Nat) : ByteArray := ⟨(digL n p).toArray⟩
theorem digL_length (n p : Nat) : (digL n p).length = p := by
  induction p with
  | zero => rfl
  | succ p ih => simp [digL, ih]
theorem digB_size (n p : Nat) : (digB n p).size = p := by
  show (digL n p).toArray.size = p
  simp [digL_length]
theorem digB_list (n p : Nat) : (digB n p).data.toList = digL n p := rfl
theorem digL_snoc (n p : Nat) : digL n (p + 1) = digL (n / 10) p ++ [UInt8.ofNat (48 + n % 10)] := by
  induction p with
  | zero => simp [digL]
  | succ p ih =>
    have e : n / 10 ^ (p + 1) = n / 10 / 10 ^ p := by rw [Nat.pow_succ, Nat.mul_comm, Nat.div_div_eq_div_mul]
    rw [digL, ih, digL, e]
    rfl
theorem digL_zero (p : Nat) : digL 0 p = List.replicate p 48 := by
  induction p with
  | zero => rfl
  | succ p ih => rw [digL, ih]; simp [List.replicate_succ]
/-- With zeros ahead up to p bytes. -/
def padL (l : List UInt8) (p : Nat) : List UInt8 := List.replicate (p - l.length) 48 ++ l
theorem padL_dec (p : Nat) : ∀ n, n < 10 ^ (p + 1) → padL (Lib.decDigits n) (p + 1) = digL n (p + 1) := by
  induction p with
  | zero =>
    intro n hn
    rw [Lib.decDigits, dif_pos (by omega)]
    simp [padL, digL]
    congr 1; omega
  | succ p ih =>
    intro n hn
    rw [digL_snoc]
    by_cases h : n < 10
    · have e : n / 10 = 0 := by omega
      rw [e, digL_zero, Lib.decDigits, dif_pos h]
      simp only [padL, List.length_singleton]
      congr 2
      congr 1; omega
    · have h1 : n / 10 < 10 ^ (p + 1) := by
        rw [Nat.pow_succ] at hn
        omega
      have h2 := ih (n / 10) h1
      rw [decDigits_step n h, ← h2]
      simp only [padL, List.length_append, List.length_singleton, ← List.append_assoc]
      congr 3
      omega
theorem dec_len_le (p n : Nat) (h : n < 10 ^ (p + 1)) : (Lib.decDigits n).length ≤ p + 1 := by
  have h1 := congrArg List.length (padL_dec p n h)
  rw [digL_length] at h1
  simp [padL] at h1
  omega
/-- What 'number' reads: what is no digit is a 0. -/
def dv (b : UInt8) : Nat := if dig8 b = true then b.toNat - 48 else 0
def valN (l : List UInt8) : Nat := l.foldl (fun n b => n * 10 + dv b) 0
theorem valN_snoc (l : List UInt8) (b : UInt8) : valN (l ++ [b]) = valN l * 10 + dv b := by simp [valN]
theorem dv_lt (b : UInt8) : dv b < 10 := by
  unfold dv
  split
  · have := (dig8_iff b).1 ‹_›; omega
  · omega
theorem valN_lt (l : List UInt8) : valN l < 10 ^ l.length := by
  refine snoc_ind (p := fun l => valN l < 10 ^ l.length) (by simp [valN]) ?_ l
  intro q b ih
  have hb := dv_lt b
  rw [valN_snoc, List.length_append, List.length_singleton, Nat.pow_succ]
  omega
/-- A digit, or a blank. -/
def numb (b : UInt8) : Bool := b == 32 || dig8 b
/-- What spec's l2num reads. -/
def numS (l : List UInt8) : Int := if l.all numb = true then (valN l : Int) else -1
theorem dig_ofNat (d : Nat) (h : d < 10) : dig8 (UInt8.ofNat (48 + d)) = true := by
  rw [dig8_iff]; simp; omega
theorem dv_ofNat (d : Nat) (h : d < 10) : dv (UInt8.ofNat (48 + d)) = d := by
  unfold dv
  rw [if_pos (dig_ofNat d h)]
  simp; omega
theorem digL_all (n p : Nat) : (digL n p).all dig8 = true := by
  induction p with
  | zero => rfl
  | succ p ih => rw [digL, List.all_cons, ih, dig_ofNat _ (by omega)]; rfl
theorem digL_numb (n p : Nat) : (digL n p).all numb = true := by
  have h := digL_all n p
  rw [List.all_eq_true] at h ⊢
  intro x hx
  simp [numb, h x hx]
theorem valN_digL (p : Nat) : ∀ n, valN (digL n p) = n % 10 ^ p := by
  induction p with
  | zero => intro n; simp [digL, valN]; omega
  | succ p ih =>
    intro n
    rw [digL_snoc, valN_snoc, ih, dv_ofNat _ (by omega), Nat.pow_succ, Nat.mul_comm (10 ^ p) 10, Nat.mod_mul]
    omega
theorem valN_dig (n p : Nat) (h : n < 10 ^ p) : valN (digL n p) = n := by rw [valN_digL, Nat.mod_eq_of_lt h]
theorem numS_dig (n p : Nat) (h : n < 10 ^ p) : numS (digL n p) = n := by
  unfold numS; rw [if_pos (digL_numb n p), valN_dig n p h]
theorem numS_bd (l : List UInt8) : -1 ≤ numS l ∧ numS l < 10 ^ l.length := by
  have h := valN_lt l
  unfold numS
  split
  · have : ((valN l : Nat) : Int) < ((10 ^ l.length : Nat) : Int) := by exact_mod_cast h
    rw [Int.natCast_pow] at this
    exact ⟨by omega, this⟩
  · exact ⟨by omega, by have : (0 : Int) < 10 ^ l.length := Int.pow_pos (by decide)
                        omega⟩
theorem mid_list {α : Type} (a b c : List α) (k t : Nat) (ha : a.length = k) (hb : k + b.length = t) : ((a ++ b ++ c).take t).drop k = b := by
  subst ha hb
  rw [List.append_assoc, List.take_length_add_append, List.drop_append_of_le_length (by simp)]
  simp
theorem mid_bytes (s : ByteArray) (a b c : List UInt8) (k t : Nat) (hs : s.data.toList = a ++ b ++ c) (ha : a.length = k) (hb : k + b.length = t) : (s.extract k t).data.toList = b := by
  rw [extract_list, hs]
  exact mid_list a b c k t ha hb
end Go.Proofs.YtenjbgpndkodmacGreatDoor
namespace Go.Proofs.YtenjbgpndkodmacGreatDoor
set_option linter.unusedVariables false
set_option linter.unusedSimpArgs false

def leapB (y : Int) : Bool := decide (y % 4 = 0) && (!decide (y % 100 = 0) || decide (y % 400 = 0))
def lp (y : Int) : Int := if leapB y = true then 1 else 0
/-- The days of month m in the year y. -/
def dim (y m : Int) : Int := if m = 2 then 28 + lp y else if m = 4 ∨ m = 6 ∨ m = 9 ∨ m = 11 then 30 else 31
/-- The days of the year y ahead of month m. -/
def cum (y m : Int) : Int :=
  if m ≤ 1 then 0 else if m = 2 then 31 else lp y + (if m = 3 then 59 else if m = 4 then 90 else if m = 5 then 120 else if m = 6 then 151 else if m = 7 then 181 else if m = 8 then 212 else if m = 9 then 243 else if m = 10 then 273 else if m = 11 then 304 else if m = 12 then 334 else 365)
/-- The days from 1970 to the beginning of the year y. -/
def dby (y : Int) : Int := 365 * (y - 1970) + ((y - 1) / 4 - (y - 1) / 100 + (y - 1) / 400) - 477

theorem leapB_iff (y : Int) : leapB y = true ↔ y % 4 = 0 ∧ (y % 100 ≠ 0 ∨ y % 400 = 0) := by
  unfold leapB; simp
theorem lp_pos {y : Int} (h : leapB y = true) : lp y = 1 := by unfold lp; rw [if_pos h]
theorem lp_neg {y : Int} (h : leapB y = false) : lp y = 0 := by unfold lp; rw [if_neg (by rw [h]; decide)]
theorem lp_01 (y : Int) : lp y = 0 ∨ lp y = 1 := by unfold lp; split <;> simp
theorem lp_bd (y : Int) : 0 ≤ lp y ∧ lp y ≤ 1 := by rcases lp_01 y with h | h <;> omega
theorem dby_succ (y : Int) : dby (y + 1) = dby y + 365 + lp y := by
  have hl : lp y = if y % 4 = 0 ∧ (y % 100 ≠ 0 ∨ y % 400 = 0) then 1 else 0 := by
    unfold lp
    by_cases h : leapB y = true
    · rw [if_pos h, if_pos ((leapB_iff y).1 h)]
    · rw [if_neg h, if_neg (fun hh => h ((leapB_iff y).2 hh))]
  unfold dby
  rw [hl]
  split <;> omega
theorem dby_1970 : dby 1970 = 0 := by decide
theorem dby_10000 : dby 10000 = 2932897 := by decide
theorem dby_mono {a b : Int} (h : a ≤ b) : dby a ≤ dby b := by
  obtain ⟨k, rfl⟩ : ∃ k : Nat, b = a + k := ⟨(b - a).toNat, by omega⟩
  clear h
  induction k with
  | zero => simp
  | succ k ih =>
    have h1 := dby_succ (a + k)
    have h2 := lp_bd (a + k)
    have e : a + ((k + 1 : Nat) : Int) = a + k + 1 := by omega
    rw [e, h1]
    omega
theorem dby_bd {y : Int} (h0 : 1970 ≤ y) (h1 : y ≤ 10000) : 0 ≤ dby y ∧ dby y ≤ 2932897 := by
  have a := dby_mono h0
  have b := dby_mono h1
  rw [dby_1970] at a
  rw [dby_10000] at b
  exact ⟨a, b⟩
theorem month_cases {m : Int} (h0 : 1 ≤ m) (h1 : m ≤ 12) : m = 1 ∨ m = 2 ∨ m = 3 ∨ m = 4 ∨ m = 5 ∨ m = 6 ∨ m = 7 ∨ m = 8 ∨ m = 9 ∨ m = 10 ∨ m = 11 ∨ m = 12 := by omega
theorem cum_succ (y m : Int) (h0 : 1 ≤ m) (h1 : m ≤ 12) : cum y (m + 1) = cum y m + dim y m := by
  rcases month_cases h0 h1 with rfl | rfl | rfl | rfl | rfl | rfl | rfl | rfl | rfl | rfl | rfl | rfl <;> simp [cum, dim] <;> omega
theorem cum_one (y : Int) : cum y 1 = 0 := by simp [cum]
theorem cum_13 (y : Int) : cum y 13 = 365 + lp y := by simp [cum]; omega
theorem dim_bd (y m : Int) : 28 ≤ dim y m ∧ dim y m ≤ 31 := by
  have := lp_bd y
  unfold dim
  split
  · omega
  · split <;> omega
theorem cum_bd (y m : Int) : 0 ≤ cum y m ∧ cum y m ≤ 366 := by
  have := lp_bd y
  unfold cum
  repeat' split
  all_goals omega
theorem cum_mono (y : Int) {a b : Int} (h0 : 1 ≤ a) (h : a ≤ b) (h1 : b ≤ 13) : cum y a ≤ cum y b := by
  obtain ⟨k, rfl⟩ : ∃ k : Nat, b = a + k := ⟨(b - a).toNat, by omega⟩
  clear h
  induction k with
  | zero => simp
  | succ k ih =>
    have h1 := cum_succ y (a + k) (by omega) (by omega)
    have h2 := dim_bd y (a + k)
    have e : a + ((k + 1 : Nat) : Int) = a + k + 1 := by omega
    have := ih (by omega)
    rw [e, h1]
    omega
/-- A day that there is, and an hour. -/
def vld (y m d h i s : Int) : Prop := 1970 ≤ y ∧ y ≤ 9999 ∧ 1 ≤ m ∧ m ≤ 12 ∧ 1 ≤ d ∧ d ≤ dim y m ∧ 0 ≤ h ∧ h ≤ 23 ∧ 0 ≤ i ∧ i ≤ 59 ∧ 0 ≤ s ∧ s ≤ 59
def vldB (y m d h i s : Int) : Bool := decide (1970 ≤ y ∧ y ≤ 9999 ∧ 1 ≤ m ∧ m ≤ 12 ∧ 1 ≤ d ∧ d ≤ dim y m ∧ 0 ≤ h ∧ h ≤ 23 ∧ 0 ≤ i ∧ i ≤ 59 ∧ 0 ≤ s ∧ s ≤ 59)
theorem vldB_iff {y m d h i s : Int} : vldB y m d h i s = true ↔ vld y m d h i s := by unfold vldB vld; rw [decide_eq_true_iff]
/-- The days ahead, and the seconds. -/
def dnum (y m d : Int) : Int := dby y + cum y m + d - 1
def secs (y m d h i s : Int) : Int := dnum y m d * 86400 + h * 3600 + i * 60 + s
theorem cum_top (y m : Int) (h0 : 1 ≤ m) (h1 : m ≤ 12) : cum y m + dim y m ≤ 365 + lp y := by
  have a := cum_succ y m h0 h1
  have b := cum_mono y (a := m + 1) (b := 13) (by omega) (by omega) (by omega)
  rw [cum_13] at b
  omega
theorem dnum_lt {y m d h i s : Int} (hv : vld y m d h i s) : dby y ≤ dnum y m d ∧ dnum y m d < dby (y + 1) := by
  obtain ⟨a, b, c, e, f, g, _⟩ := hv
  have h1 := cum_top y m c e
  have h2 := cum_bd y m
  have h3 := dby_succ y
  unfold dnum
  omega
theorem dnum_bd {y m d h i s : Int} (hv : vld y m d h i s) : 0 ≤ dnum y m d ∧ dnum y m d ≤ 2932896 := by
  have h1 := dnum_lt hv
  obtain ⟨a, b, _⟩ := hv
  have h2 := dby_bd a (by omega)
  have h3 := dby_mono (a := y + 1) (b := 10000) (by omega)
  rw [dby_10000] at h3
  omega
theorem secs_bd {y m d h i s : Int} (hv : vld y m d h i s) : 0 ≤ secs y m d h i s ∧ secs y m d h i s ≤ 253402300799 := by
  have h1 := dnum_bd hv
  obtain ⟨_, _, _, _, _, _, a, b, c, e, f, g⟩ := hv
  unfold secs
  omega
theorem secs_parts {y m d h i s : Int} (hv : vld y m d h i s) :
    secs y m d h i s / 86400 = dnum y m d ∧ secs y m d h i s % 86400 = h * 3600 + i * 60 + s ∧ secs y m d h i s / 3600 % 24 = h ∧ secs y m d h i s / 60 % 60 = i ∧ secs y m d h i s % 60 = s := by
  obtain ⟨_, _, _, _, _, _, a, b, c, e, f, g⟩ := hv
  unfold secs
  omega
theorem clock_parts {h i s : Int} (a : 0 ≤ h) (b : h ≤ 23) (c : 0 ≤ i) (e : i ≤ 59) (f : 0 ≤ s) (g : s ≤ 59) :
    (h * 3600 + i * 60 + s) / 3600 = h ∧ (h * 3600 + i * 60 + s) / 60 % 60 = i ∧ (h * 3600 + i * 60 + s) % 60 = s := by omega
/-- Each day has its year: just the one. -/
theorem year_iff {y m d h i s : Int} (hv : vld y m d h i s) (k : Int) : dby (k + 1) ≤ dnum y m d ↔ k < y := by
  have h1 := dnum_lt hv
  constructor
  · intro hk
    rcases (by omega : k < y ∨ y ≤ k) with h | h
    · exact h
    · have := dby_mono (a := y + 1) (b := k + 1) (by omega); omega
  · intro hk
    have := dby_mono (a := k + 1) (b := y) (by omega); omega
theorem month_iff {y m d h i s : Int} (hv : vld y m d h i s) (k : Int) (k0 : 1 ≤ k) (k1 : k ≤ m) : dim y k ≤ cum y m + d - 1 - cum y k ↔ k < m := by
  obtain ⟨_, _, c, e, f, g, _⟩ := hv
  have h1 := cum_succ y k k0 (by omega)
  constructor
  · intro hk
    rcases (by omega : k < m ∨ m ≤ k) with h | h
    · exact h
    · obtain rfl : k = m := by omega
      omega
  · intro hk
    have := cum_mono y (a := k + 1) (b := m) (by omega) (by omega) (by omega); omega
theorem year_of (n : Nat) : ∃ y : Int, 1970 ≤ y ∧ dby y ≤ n ∧ (n : Int) < dby (y + 1) := by
  induction n with
  | zero => exact ⟨1970, by omega, by decide, by decide⟩
  | succ n ih =>
    obtain ⟨y, h0, h1, h2⟩ := ih
    by_cases h : ((n + 1 : Nat) : Int) < dby (y + 1)
    · exact ⟨y, h0, by omega, h⟩
    · have h3 := dby_succ (y + 1)
      have h4 := lp_bd (y + 1)
      exact ⟨y + 1, by omega, by omega, by omega⟩
theorem month_of (y r : Int) (h0 : 0 ≤ r) (h1 : r < 365 + lp y) : ∃ m : Int, 1 ≤ m ∧ m ≤ 12 ∧ cum y m ≤ r ∧ r < cum y m + dim y m := by
  have key : ∀ k : Nat, k ≤ 12 → r < cum y (13 : Int) → (∃ m : Int, 1 ≤ m ∧ m ≤ 12 ∧ cum y m ≤ r ∧ r < cum y (m + 1)) ∨ r < cum y (13 - k) := by
    intro k
    induction k with
    | zero => intro _ h; right; simpa using h
    | succ k ih =>
      intro hk h
      rcases ih (by omega) h with h' | h'
      · left; exact h'
      · by_cases hc : cum y (13 - ((k + 1 : Nat) : Int)) ≤ r
        · left
          exact ⟨13 - ((k + 1 : Nat) : Int), by omega, by omega, hc, by rw [show (13 - ((k + 1 : Nat) : Int) + 1 : Int) = 13 - k by omega]; exact h'⟩
        · right; omega
  rcases key 12 (by omega) (by rw [cum_13]; exact h1) with ⟨m, a, b, c, e⟩ | h
  · exact ⟨m, a, b, c, by rw [cum_succ y m a b] at e; exact e⟩
  · have : cum y (13 - ((12 : Nat) : Int)) = 0 := cum_one y
    omega
/-- Each time has its day and hour. -/
theorem civ_of (t : Int) (h0 : 0 ≤ t) (h1 : t ≤ 253402300799) : ∃ y m d h i s : Int, vld y m d h i s ∧ t = secs y m d h i s := by
  obtain ⟨n, hn⟩ : ∃ n : Nat, t / 86400 = n := ⟨(t / 86400).toNat, by omega⟩
  obtain ⟨y, a, b, c⟩ := year_of n
  have hs := dby_succ y
  obtain ⟨m, e, f, g, k⟩ := month_of y (n - dby y) (by omega) (by omega)
  have hy : y ≤ 9999 := by
    rcases (by omega : y < 10000 ∨ 10000 ≤ y) with h | h
    · omega
    · have := dby_mono h; rw [dby_10000] at this; omega
  refine ⟨y, m, n - dby y - cum y m + 1, t / 3600 % 24, t / 60 % 60, t % 60, ⟨a, hy, e, f, by omega, by omega, by omega, by omega, by omega, by omega, by omega, by omega⟩, ?_⟩
  unfold secs dnum
  omega
theorem dnum_inj {y m d h i s y' m' d' h' i' s' : Int} (hv : vld y m d h i s) (hv' : vld y' m' d' h' i' s') (e : dnum y m d = dnum y' m' d') : y = y' ∧ m = m' ∧ d = d' := by
  have a1 := dnum_lt hv
  have a2 := dnum_lt hv'
  have ey : y = y' := by
    rcases Int.lt_trichotomy y y' with h | h | h
    · have := dby_mono (a := y + 1) (b := y') (by omega); omega
    · exact h
    · have := dby_mono (a := y' + 1) (b := y) (by omega); omega
  subst ey
  obtain ⟨_, _, b1, b2, b3, b4, _⟩ := hv
  obtain ⟨_, _, c1, c2, c3, c4, _⟩ := hv'
  have d1 := cum_succ y m b1 b2
  have d2 := cum_succ y m' c1 c2
  unfold dnum at e
  have em : m = m' := by
    rcases Int.lt_trichotomy m m' with h | h | h
    · have := cum_mono y (a := m + 1) (b := m') (by omega) (by omega) (by omega); omega
    · exact h
    · have := cum_mono y (a := m' + 1) (b := m) (by omega) (by omega) (by omega); omega
  subst em
  exact ⟨rfl, rfl, by omega⟩
theorem secs_inj {y m d h i s y' m' d' h' i' s' : Int} (hv : vld y m d h i s) (hv' : vld y' m' d' h' i' s') (e : secs y m d h i s = secs y' m' d' h' i' s') : y = y' ∧ m = m' ∧ d = d' ∧ h = h' ∧ i = i' ∧ s = s' := by
  have a := secs_parts hv
  have b := secs_parts hv'
  rw [e] at a
  obtain ⟨e1, e2, e3⟩ := dnum_inj hv hv' (by omega)
  exact ⟨e1, e2, e3, by omega, by omega, by omega⟩
end Go.Proofs.YtenjbgpndkodmacGreatDoor
namespace Go.Proofs.YtenjbgpndkodmacGreatDoor
set_option linter.unusedVariables false
set_option linter.unusedSimpArgs false
open Go.RowKit

def dayL (k : Nat) : List UInt8 := [[77, 111, 110, 100, 97, 121], [84, 117, 101, 115, 100, 97, 121], [87, 101, 100, 110, 101, 115, 100, 97, 121], [84, 104, 117, 114, 115, 100, 97, 121], [70, 114, 105, 100, 97, 121], [83, 97, 116, 117, 114, 100, 97, 121], [83, 117, 110, 100, 97, 121]].getD k []
def dayB (k : Nat) : ByteArray := ⟨(dayL k).toArray⟩
def monL (k : Nat) : List UInt8 := [[], [74, 97, 110], [70, 101, 98], [77, 97, 114], [65, 112, 114], [77, 97, 121], [74, 117, 110], [74, 117, 108], [65, 117, 103], [83, 101, 112], [79, 99, 116], [78, 111, 118], [68, 101, 99]].getD k []
def monB (k : Nat) : ByteArray := ⟨(monL k).toArray⟩
theorem seven {k : Nat} (h : k < 7) : k = 0 ∨ k = 1 ∨ k = 2 ∨ k = 3 ∨ k = 4 ∨ k = 5 ∨ k = 6 := by omega
theorem twelve {k : Nat} (h0 : 1 ≤ k) (h1 : k ≤ 12) : k = 1 ∨ k = 2 ∨ k = 3 ∨ k = 4 ∨ k = 5 ∨ k = 6 ∨ k = 7 ∨ k = 8 ∨ k = 9 ∨ k = 10 ∨ k = 11 ∨ k = 12 := by omega
theorem dayB_size {k : Nat} (h : k < 7) : 6 ≤ (dayB k).size ∧ (dayB k).size ≤ 9 := by
  rcases seven h with rfl | rfl | rfl | rfl | rfl | rfl | rfl <;> decide
theorem dayB_bd (k : Nat) : (dayB k).size ≤ 9 := by
  rcases Nat.lt_or_ge k 7 with h | h
  · exact (dayB_size h).2
  · have : dayL k = [] := by unfold dayL; rw [List.getD, List.getElem?_eq_none (by simp; omega)]; rfl
    unfold dayB
    rw [this]
    decide
theorem monB_size {k : Nat} (h0 : 1 ≤ k) (h1 : k ≤ 12) : (monB k).size = 3 := by
  rcases twelve h0 h1 with rfl | rfl | rfl | rfl | rfl | rfl | rfl | rfl | rfl | rfl | rfl | rfl <;> decide
theorem monB_bd (k : Nat) : (monB k).size ≤ 3 := by
  rcases Nat.lt_or_ge k 13 with h | h
  · rcases Nat.eq_zero_or_pos k with rfl | h'
    · decide
    · rw [monB_size h' (by omega)]; exact Nat.le_refl _
  · have : monL k = [] := by unfold monL; rw [List.getD, List.getElem?_eq_none (by simp; omega)]; rfl
    unfold monB
    rw [this]
    decide
/-- A day's first three letters. -/
def dayS (k : Nat) : ByteArray := (dayB k).extract 0 3
theorem dayS_size {k : Nat} (h : k < 7) : (dayS k).size = 3 := by
  rcases seven h with rfl | rfl | rfl | rfl | rfl | rfl | rfl <;> decide
def clockB (h i s : Nat) : ByteArray := digB h 2 ++ ⟨#[58]⟩ ++ digB i 2 ++ ⟨#[58]⟩ ++ digB s 2
theorem clockB_size (h i s : Nat) : (clockB h i s).size = 8 := by
  unfold clockB
  simp only [ByteArray.size_append, digB_size]
  rfl
def httpB (wd y m d h i s : Nat) : ByteArray := dayS wd ++ ⟨#[44, 32]⟩ ++ digB d 2 ++ ⟨#[32]⟩ ++ monB m ++ ⟨#[32]⟩ ++ digB y 4 ++ ⟨#[32]⟩ ++ clockB h i s ++ ⟨#[32, 71, 77, 84]⟩
def longB (wd y m d h i s : Nat) : ByteArray := dayB wd ++ ⟨#[44, 32]⟩ ++ digB d 2 ++ ⟨#[45]⟩ ++ monB m ++ ⟨#[45]⟩ ++ digB y 2 ++ ⟨#[32]⟩ ++ clockB h i s ++ ⟨#[32, 71, 77, 84]⟩
/-- The day of a line: a blank in a zero's place. -/
def bday (d : Nat) : ByteArray := if d < 10 then ⟨#[32]⟩ ++ digB d 1 else digB d 2
theorem bday_size (d : Nat) : (bday d).size = 2 := by
  unfold bday
  split
  · rw [ByteArray.size_append, digB_size]; rfl
  · exact digB_size d 2
def lineB (wd y m d h i s : Nat) : ByteArray := dayS wd ++ ⟨#[32]⟩ ++ monB m ++ ⟨#[32]⟩ ++ bday d ++ ⟨#[32]⟩ ++ clockB h i s ++ ⟨#[32]⟩ ++ digB y 4
def warcB (y m d h i s : Nat) : ByteArray := digB y 4 ++ ⟨#[45]⟩ ++ digB m 2 ++ ⟨#[45]⟩ ++ digB d 2 ++ ⟨#[84]⟩ ++ clockB h i s ++ ⟨#[90]⟩
def stampB (y m d h i s : Nat) : ByteArray := digB y 4 ++ digB m 2 ++ digB d 2 ++ digB h 2 ++ digB i 2 ++ digB s 2
theorem civ_ofN (t : Int) (h0 : 0 ≤ t) (h1 : t ≤ 253402300799) : ∃ y m d h i s : Nat, vld y m d h i s ∧ t = secs y m d h i s := by
  obtain ⟨y, m, d, h, i, s, hv, e⟩ := civ_of t h0 h1
  have hv' := hv
  unfold vld at hv'
  obtain ⟨y, rfl⟩ := Int.eq_ofNat_of_zero_le (a := y) (by omega)
  obtain ⟨m, rfl⟩ := Int.eq_ofNat_of_zero_le (a := m) (by omega)
  obtain ⟨d, rfl⟩ := Int.eq_ofNat_of_zero_le (a := d) (by omega)
  obtain ⟨h, rfl⟩ := Int.eq_ofNat_of_zero_le (a := h) (by omega)
  obtain ⟨i, rfl⟩ := Int.eq_ofNat_of_zero_le (a := i) (by omega)
  obtain ⟨s, rfl⟩ := Int.eq_ofNat_of_zero_le (a := s) (by omega)
  exact ⟨y, m, d, h, i, s, hv, e⟩
/-- The row of impl.digits, after k rounds. -/
def digRow (n p k : Nat) : List Int := List.replicate (p - k) 0 ++ (digL n k).map fun b => (b.toNat : Int)
theorem digRow_len (n p k : Nat) (h : k ≤ p) : (digRow n p k).length = p := by simp [digRow, digL_length]; omega
theorem digRow_zero (n p : Nat) : digRow n p 0 = List.replicate p 0 := by simp [digRow, digL]
theorem digRow_succ (n p k : Nat) (h : k < p) : digRow n p (k + 1) = (digRow n p k).set (p - 1 - k) (48 + ((n / 10 ^ k % 10 : Nat) : Int)) := by
  unfold digRow
  rw [show p - k = (p - (k + 1)) + 1 by omega, List.replicate_succ', digL, List.map_cons, List.append_assoc, List.set_append_right _ _ (by simp; omega)]
  have e : p - 1 - k - (List.replicate (p - (k + 1)) (0 : Int)).length = 0 := by simp; omega
  rw [e]
  simp only [List.cons_append, List.nil_append, List.set_cons_zero]
  congr 2
  simp
  omega
theorem digRow_all (n p : Nat) : strOfNums (digRow n p p) = digB n p := by
  unfold digRow strOfNums digB
  rw [Nat.sub_self]
  simp only [List.replicate_zero, List.nil_append, List.map_map]
  congr 2
  conv => rhs; rw [← List.map_id (digL n p)]
  apply List.map_congr_left
  intro b _
  simp
end Go.Proofs.YtenjbgpndkodmacGreatDoor
