/-
  Chapter 9 on lists: a line; which of two is ahead. No Go in sight.
-/
import Derived.Test.YtenjbgpndkodmabB0
import Derived.Test.YtenjbgpndkodmabM1
namespace Go.Proofs.Ytenjbgpndkodmab
set_option linter.unusedVariables false
set_option linter.unusedSimpArgs false
open Go.RowKit
/-- A line of the index. -/
structure Lx where
  ke : ByteArray
  ti : Int
  si : Int
  me : ByteArray
  st : Int
  la : ByteArray
  rv : Bool
  se : Int
  wh : Int
  sz : Int
def lx0 : Lx := ⟨⟨#[]⟩, 0, 0, ⟨#[]⟩, 0, ⟨#[]⟩, false, 0, 0, 0⟩
def lxC (x : Lx) : Array Value := #[.string x.ke, .int .i64 x.ti, .int .i64 x.si, .string x.me, .int .i64 x.st, .string x.la, .bool x.rv, .int .i64 x.se, .int .i64 x.wh, .int .i64 x.sz]
def lxV (x : Lx) : Value := .agg #[.string x.ke, .int .i64 x.ti, .int .i64 x.si, .string x.me, .int .i64 x.st, .string x.la, .bool x.rv, .int .i64 x.se, .int .i64 x.wh, .int .i64 x.sz]
def lxAt (l : List Lx) (k : Nat) : Lx := l.getD k lx0
theorem lxAt_get {l : List Lx} {k : Nat} (h : k < l.length) : lxAt l k = l[k] := by unfold lxAt; rw [List.getD, List.getElem?_eq_getElem h]; rfl
theorem lxAt_mem {l : List Lx} {k : Nat} (h : k < l.length) : lxAt l k ∈ l := by rw [lxAt_get h]; exact List.getElem_mem h
theorem mem_lxAt {l : List Lx} {x : Lx} (h : x ∈ l) : ∃ k, k < l.length ∧ lxAt l k = x := by
  obtain ⟨k, hk, e⟩ := List.mem_iff_getElem.1 h
  exact ⟨k, hk, by rw [lxAt_get hk]; exact e⟩
theorem take_at {l : List Lx} {k j : Nat} (h : j < k) : lxAt (l.take k) j = lxAt l j := by
  unfold lxAt
  rw [List.getD, List.getD, List.getElem?_take_of_lt h]
/-! Which is ahead. -/
def sgn3 (a b : Int) : Int := if a < b then -1 else if b < a then 1 else 0
def kes (a b : ByteArray) : Int := if Op.bytesLess a.toList b.toList = true then -1 else if Op.bytesLess b.toList a.toList = true then 1 else 0
def or4 (a b c d : Int) : Int := if a ≠ 0 then a else if b ≠ 0 then b else if c ≠ 0 then c else d
def cmpX (a b : Lx) : Int := or4 (kes a.ke b.ke) (sgn3 a.ti b.ti) (sgn3 a.se b.se) (sgn3 a.wh b.wh)
theorem u8_irr (a : UInt8) : ¬ a < a := by rw [UInt8.lt_iff_toNat_lt]; omega
theorem bl_irr (x : List UInt8) : Op.bytesLess x x = false := by
  induction x with
  | nil => rfl
  | cons a x ih => simp only [Op.bytesLess, ih, decide_eq_false (u8_irr a), Bool.and_false, Bool.or_false]
theorem bl_trans : ∀ {x y z : List UInt8}, Op.bytesLess x y = true → Op.bytesLess y z = true → Op.bytesLess x z = true
  | x, [], z, h, _ => by cases x <;> simp [Op.bytesLess] at h
  | [], _ :: _, [], _, h => by simp [Op.bytesLess] at h
  | [], _ :: _, _ :: _, _, _ => rfl
  | _ :: _, _ :: _, [], _, h => by simp [Op.bytesLess] at h
  | a :: x, b :: y, c :: z, h1, h2 => by
    simp only [Op.bytesLess, Bool.or_eq_true, Bool.and_eq_true, decide_eq_true_eq, beq_iff_eq, UInt8.lt_iff_toNat_lt] at h1 h2 ⊢
    rcases h1 with h1 | ⟨rfl, h1⟩
    · rcases h2 with h2 | ⟨rfl, h2⟩
      · exact .inl (by omega)
      · exact .inl h1
    · rcases h2 with h2 | ⟨rfl, h2⟩
      · exact .inl h2
      · exact .inr ⟨rfl, bl_trans h1 h2⟩
theorem bl_tri : ∀ {x y : List UInt8}, Op.bytesLess x y = false → Op.bytesLess y x = false → x = y
  | [], [], _, _ => rfl
  | [], _ :: _, h, _ => by simp [Op.bytesLess] at h
  | _ :: _, [], _, h => by simp [Op.bytesLess] at h
  | a :: x, b :: y, h1, h2 => by
    simp only [Op.bytesLess, Bool.or_eq_false_iff, Bool.and_eq_false_iff, decide_eq_false_iff_not, beq_eq_false_iff_ne, UInt8.lt_iff_toNat_lt] at h1 h2
    have hab : a = b := UInt8.toNat_inj.1 (by omega)
    subst hab
    have e1 := h1.2.resolve_left (by simp)
    have e2 := h2.2.resolve_left (by simp)
    rw [bl_tri e1 e2]
theorem bl_asym {x y : List UInt8} (h : Op.bytesLess x y = true) : Op.bytesLess y x = false := by
  cases e : Op.bytesLess y x
  · rfl
  · have := bl_trans h e
    rw [bl_irr] at this; cases this
theorem sgn3_cases (a b : Int) : (sgn3 a b = -1 ∧ a < b) ∨ (sgn3 a b = 1 ∧ b < a) ∨ (sgn3 a b = 0 ∧ a = b) := by
  unfold sgn3
  by_cases h1 : a < b
  · exact .inl ⟨by rw [if_pos h1], h1⟩
  · by_cases h2 : b < a
    · exact .inr (.inl ⟨by rw [if_neg h1, if_pos h2], h2⟩)
    · exact .inr (.inr ⟨by rw [if_neg h1, if_neg h2], by omega⟩)
theorem kes_cases (a b : ByteArray) : (kes a b = -1 ∧ Op.bytesLess a.toList b.toList = true) ∨ (kes a b = 1 ∧ Op.bytesLess b.toList a.toList = true) ∨ (kes a b = 0 ∧ a = b) := by
  unfold kes
  cases h1 : Op.bytesLess a.toList b.toList
  · cases h2 : Op.bytesLess b.toList a.toList
    · exact .inr (.inr ⟨by simp, by rw [← eqB_iff]; unfold eqB; rw [bl_tri h1 h2]; simp⟩)
    · exact .inr (.inl ⟨by simp, rfl⟩)
  · exact .inl ⟨by simp, rfl⟩
/-- a is ahead of b. -/
def Ahd (a b : Lx) : Prop := Op.bytesLess a.ke.toList b.ke.toList = true ∨ a.ke = b.ke ∧ (a.ti < b.ti ∨ a.ti = b.ti ∧ (a.se < b.se ∨ a.se = b.se ∧ a.wh < b.wh))
def Alk (a b : Lx) : Prop := a.ke = b.ke ∧ a.ti = b.ti ∧ a.se = b.se ∧ a.wh = b.wh
theorem cmp_cases (a b : Lx) : (cmpX a b = -1 ∧ Ahd a b) ∨ (cmpX a b = 1 ∧ Ahd b a) ∨ (cmpX a b = 0 ∧ Alk a b) := by
  unfold cmpX or4
  rcases kes_cases a.ke b.ke with ⟨e, h⟩ | ⟨e, h⟩ | ⟨e, h⟩
  · exact .inl ⟨by rw [e]; rfl, .inl h⟩
  · exact .inr (.inl ⟨by rw [e]; rfl, .inl h⟩)
  · rw [e, if_neg (by decide)]
    rcases sgn3_cases a.ti b.ti with ⟨e2, h2⟩ | ⟨e2, h2⟩ | ⟨e2, h2⟩
    · exact .inl ⟨by rw [e2]; rfl, .inr ⟨h, .inl h2⟩⟩
    · exact .inr (.inl ⟨by rw [e2]; rfl, .inr ⟨h.symm, .inl h2⟩⟩)
    · rw [e2, if_neg (by decide)]
      rcases sgn3_cases a.se b.se with ⟨e3, h3⟩ | ⟨e3, h3⟩ | ⟨e3, h3⟩
      · exact .inl ⟨by rw [e3]; rfl, .inr ⟨h, .inr ⟨h2, .inl h3⟩⟩⟩
      · exact .inr (.inl ⟨by rw [e3]; rfl, .inr ⟨h.symm, .inr ⟨h2.symm, .inl h3⟩⟩⟩)
      · rw [e3, if_neg (by decide)]
        rcases sgn3_cases a.wh b.wh with ⟨e4, h4⟩ | ⟨e4, h4⟩ | ⟨e4, h4⟩
        · exact .inl ⟨e4, .inr ⟨h, .inr ⟨h2, .inr ⟨h3, h4⟩⟩⟩⟩
        · exact .inr (.inl ⟨e4, .inr ⟨h.symm, .inr ⟨h2.symm, .inr ⟨h3.symm, h4⟩⟩⟩⟩)
        · exact .inr (.inr ⟨e4, h, h2, h3, h4⟩)
theorem Ahd.trans {a b c : Lx} (h1 : Ahd a b) (h2 : Ahd b c) : Ahd a c := by
  unfold Ahd at *
  rcases h1 with h1 | ⟨e1, h1⟩
  · rcases h2 with h2 | ⟨e2, h2⟩
    · exact .inl (bl_trans h1 h2)
    · exact .inl (by rw [← e2]; exact h1)
  · rcases h2 with h2 | ⟨e2, h2⟩
    · exact .inl (by rw [e1]; exact h2)
    · exact .inr ⟨e1.trans e2, by omega⟩
theorem Ahd.irr (a : Lx) : ¬ Ahd a a := by
  unfold Ahd
  rw [bl_irr]
  rintro (h | ⟨_, h⟩)
  · cases h
  · omega
theorem Ahd.not_alk {a b : Lx} (h : Ahd a b) : ¬ Alk a b := by
  unfold Ahd Alk at *
  rintro ⟨h1, h2, h3, h4⟩
  rcases h with h | ⟨_, h⟩
  · rw [h1, bl_irr] at h; cases h
  · omega
theorem Alk.symm {a b : Lx} (h : Alk a b) : Alk b a := ⟨h.1.symm, h.2.1.symm, h.2.2.1.symm, h.2.2.2.symm⟩
theorem Alk.ahd {a b c : Lx} (h : Alk a b) (h2 : Ahd b c) : Ahd a c := by
  unfold Alk Ahd at *
  obtain ⟨h3, h4, h5, h6⟩ := h
  rw [h3, h4, h5, h6]; exact h2
theorem Ahd.alk {a b c : Lx} (h : Ahd a b) (h2 : Alk b c) : Ahd a c := by
  unfold Alk Ahd at *
  obtain ⟨h3, h4, h5, h6⟩ := h2
  rw [← h3, ← h4, ← h5, ← h6]; exact h
theorem cmp_ahd {a b : Lx} : cmpX a b = -1 ↔ Ahd a b := by
  rcases cmp_cases a b with ⟨e, h⟩ | ⟨e, h⟩ | ⟨e, h⟩
  · exact ⟨fun _ => h, fun _ => e⟩
  · exact ⟨fun h1 => by omega, fun h1 => absurd (h1.trans h) (Ahd.irr _)⟩
  · exact ⟨fun h1 => by omega, fun h1 => absurd h h1.not_alk⟩
theorem cmp_bhd {a b : Lx} : cmpX a b = 1 ↔ Ahd b a := by
  rcases cmp_cases a b with ⟨e, h⟩ | ⟨e, h⟩ | ⟨e, h⟩
  · exact ⟨fun h1 => by omega, fun h1 => absurd (h1.trans h) (Ahd.irr _)⟩
  · exact ⟨fun _ => h, fun _ => e⟩
  · exact ⟨fun h1 => by omega, fun h1 => absurd h.symm h1.not_alk⟩
theorem cmp_alk {a b : Lx} : cmpX a b = 0 ↔ Alk a b := by
  rcases cmp_cases a b with ⟨e, h⟩ | ⟨e, h⟩ | ⟨e, h⟩
  · exact ⟨fun h1 => by omega, fun h1 => absurd h1 h.not_alk⟩
  · exact ⟨fun h1 => by omega, fun h1 => absurd h1.symm h.not_alk⟩
  · exact ⟨fun _ => h, fun _ => e⟩
end Go.Proofs.Ytenjbgpndkodmab
