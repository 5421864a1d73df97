/-
  Chapter 9 on lists: the range of a key, the nearest line, an index's text and what is read of one. No Go in sight. · Chapter 9: a line's text; both sides. (written by mkn9.py) · append(out, s...): a text behind the bytes of the call's own (out of G4). · Chapter 9: an index's text; the specification's side. · Chapter 9: an index's text; the program's side (by a strings.Builder). · What a card of a door seat of chapter 1 needs: the listed tables. · What a card of a door seat of chapter 6 needs: the table of the powers of ten. · What every frame of a door seat of chapter 2 shares: the listed tables, a day and hour that comes in.
-/
import Derived.Test.YtenjbgpndkodmacGreatDoorJ7
import Derived.Test.YtenjbgpndkodmacGreatDoorJ9
import Derived.Test.YtenjbgpndkodmacGreatDoorJ2
import Derived.Lib.AppendStr
import Derived.Test.YtenjbgpndkodmacGreatDoorJ3
import Derived.Test.YtenjbgpndkodmacGreatDoorJ0
import Derived.Lib.LaidTab
import Derived.LaidLaws
import Derived.LaidHandle
import Derived.ChangeVars
import Derived.OpenVars
import Derived.SevenTiedAt
namespace Go.Proofs.YtenjbgpndkodmacGreatDoor
set_option linter.unusedVariables false
set_option linter.unusedSimpArgs false
open Go.RowKit
/-! How many stand ahead of the first that is not so. -/
def cutP (p : Lx → Bool) : List Lx → Nat
  | [] => 0
  | a :: l => if p a = true then cutP p l + 1 else 0
theorem cutP_le (p : Lx → Bool) : ∀ (l : List Lx), cutP p l ≤ l.length
  | [] => Nat.le_refl _
  | a :: l => by unfold cutP; have := cutP_le p l; split <;> simp only [List.length_cons] <;> omega
theorem cutP_lt (p : Lx → Bool) : ∀ (l : List Lx) (k : Nat), k < cutP p l → p (lxAt l k) = true
  | [], k, h => by simp [cutP] at h
  | a :: l, k, h => by
    unfold cutP at h
    split at h
    · rename_i e
      cases k with
      | zero => exact e
      | succ k => exact cutP_lt p l k (by omega)
    · omega
theorem cutP_at (p : Lx → Bool) : ∀ (l : List Lx), cutP p l < l.length → p (lxAt l (cutP p l)) = false
  | [], h => by simp at h
  | a :: l, h => by
    unfold cutP at *
    split at h
    · rename_i e
      rw [if_pos e]
      simp only [List.length_cons] at h
      exact cutP_at p l (by omega)
    · rename_i e
      rw [if_neg e]
      show p a = false
      simpa using e
theorem cutP_iff {p : Lx → Bool} {l : List Lx} (hm : ∀ i j, i < j → j < l.length → p (lxAt l j) = true → p (lxAt l i) = true) {k : Nat} (hk : k < l.length) : p (lxAt l k) = true ↔ k < cutP p l := by
  constructor
  · intro h
    rcases Nat.lt_or_ge k (cutP p l) with h1 | h1
    · exact h1
    · have hc : cutP p l < l.length := by omega
      have h2 := cutP_at p l hc
      rcases Nat.eq_or_lt_of_le h1 with h3 | h3
      · rw [h3, h] at h2; cases h2
      · rw [hm _ _ h3 hk h] at h2; cases h2
  · exact cutP_lt p l k
def loP (key : ByteArray) (y : Lx) : Bool := Op.bytesLess y.ke.toList key.toList
def hiP (key : ByteArray) (y : Lx) : Bool := !(Op.bytesLess key.toList y.ke.toList)
def loX (l : List Lx) (key : ByteArray) : Nat := cutP (loP key) l
def hiX (l : List Lx) (key : ByteArray) : Nat := cutP (hiP key) l
theorem ahd_le {a b : Lx} (h : Ahd a b) : Op.bytesLess b.ke.toList a.ke.toList = false := by
  rcases h with h | ⟨h, _⟩
  · exact bl_asym h
  · rw [h]; exact bl_irr _
theorem bl_le_trans {x y z : List UInt8} (h1 : Op.bytesLess y x = false) (h2 : Op.bytesLess y z = true) : Op.bytesLess x z = true := by
  cases h : Op.bytesLess x y
  · rw [bl_tri h h1]; exact h2
  · exact bl_trans h h2
theorem loP_mono {l : List Lx} (h : Srt l) (key : ByteArray) : ∀ i j, i < j → j < l.length → loP key (lxAt l j) = true → loP key (lxAt l i) = true := by
  intro i j hij hj hp
  exact bl_le_trans (ahd_le (h.at hij hj)) hp
theorem hiP_mono {l : List Lx} (h : Srt l) (key : ByteArray) : ∀ i j, i < j → j < l.length → hiP key (lxAt l j) = true → hiP key (lxAt l i) = true := by
  intro i j hij hj hp
  unfold hiP at *
  cases e : Op.bytesLess key.toList (lxAt l i).ke.toList
  · rfl
  · have h1 := ahd_le (h.at hij hj)
    have h2 : Op.bytesLess key.toList (lxAt l j).ke.toList = true := by
      cases h3 : Op.bytesLess (lxAt l i).ke.toList (lxAt l j).ke.toList
      · rw [← bl_tri h3 h1]; exact e
      · exact bl_trans e h3
    rw [h2] at hp; cases hp
theorem loX_iff {l : List Lx} (h : Srt l) (key : ByteArray) {k : Nat} (hk : k < l.length) : loP key (lxAt l k) = true ↔ k < loX l key := cutP_iff (loP_mono h key) hk
theorem hiX_iff {l : List Lx} (h : Srt l) (key : ByteArray) {k : Nat} (hk : k < l.length) : hiP key (lxAt l k) = true ↔ k < hiX l key := cutP_iff (hiP_mono h key) hk
theorem kes_lo (y : Lx) (key : ByteArray) : decide (kes y.ke key ≤ -1) = loP key y := by
  unfold loP
  rcases kes_cases y.ke key with ⟨e, h⟩ | ⟨e, h⟩ | ⟨e, h⟩
  · rw [e, h]; rfl
  · rw [e, bl_asym h]; rfl
  · rw [e, h, bl_irr]; rfl
theorem kes_hi (y : Lx) (key : ByteArray) : decide (kes y.ke key ≤ 0) = hiP key y := by
  unfold hiP
  rcases kes_cases y.ke key with ⟨e, h⟩ | ⟨e, h⟩ | ⟨e, h⟩
  · rw [e, bl_asym h]; rfl
  · rw [e, h]; rfl
  · rw [e, h, bl_irr]; rfl
theorem key_range {l : List Lx} (h : Srt l) {key : ByteArray} {k : Nat} (hk : k < l.length) : (lxAt l k).ke = key ↔ loX l key ≤ k ∧ k < hiX l key := by
  have h1 := loX_iff h key hk
  have h2 := hiX_iff h key hk
  constructor
  · intro e
    have a1 : loP key (lxAt l k) = false := by unfold loP; rw [e, bl_irr]
    have a2 : hiP key (lxAt l k) = true := by unfold hiP; rw [e, bl_irr]; rfl
    refine ⟨?_, h2.1 a2⟩
    rcases Nat.lt_or_ge k (loX l key) with h3 | h3
    · rw [h1.2 h3] at a1; cases a1
    · exact h3
  · rintro ⟨g1, g2⟩
    have a2 := h2.2 g2
    have a1 : loP key (lxAt l k) = false := by
      cases e : loP key (lxAt l k)
      · rfl
      · have := h1.1 e; omega
    unfold hiP at a2
    unfold loP at a1
    rw [← eqB_iff]
    unfold eqB
    rw [bl_tri a1 (by simpa using a2)]
    simp
theorem lo_hi {l : List Lx} (h : Srt l) (key : ByteArray) : loX l key ≤ hiX l key := by
  rcases Nat.lt_or_ge (hiX l key) (loX l key) with h1 | h1
  · have hc := cutP_le (loP key) l
    have hk : hiX l key < l.length := Nat.lt_of_lt_of_le h1 hc
    have a1 := (loX_iff h key hk).2 h1
    have a2 : hiP key (lxAt l (hiX l key)) = true := by unfold hiP; rw [bl_asym a1]; rfl
    have := (hiX_iff h key hk).1 a2
    omega
  · exact h1
/-! The nearest line. -/
def farI (a b : Int) : Int := if a < b then b - a else a - b
def matX (key : ByteArray) (si : Int) (me : ByteArray) (y : Lx) : Bool := eqB y.ke key && (decide (y.si = si) && eqB y.me me)
def betX (l : List Lx) (t : Int) (y : Lx) (b : Int) : Bool := decide (b < 0) || (decide (farI y.ti t < farI (lxAt l b.toNat).ti t) || decide (y.ti = (lxAt l b.toNat).ti))
def clsF (l : List Lx) (key : ByteArray) (si : Int) (me : ByteArray) (t : Int) : Nat → Int
  | 0 => -1
  | k + 1 => if (matX key si me (lxAt l k) && betX l t (lxAt l k) (clsF l key si me t k)) = true then (k : Int) else clsF l key si me t k
def clsX (l : List Lx) (key : ByteArray) (si : Int) (me : ByteArray) (t : Int) : Int := if idxQ l = true ∧ timeB t = true then clsF l key si me t l.length else -1
theorem clsF_bd (l : List Lx) (key : ByteArray) (si : Int) (me : ByteArray) (t : Int) (k : Nat) : -1 ≤ clsF l key si me t k ∧ clsF l key si me t k < k := by
  induction k with
  | zero => exact ⟨by unfold clsF; omega, by unfold clsF; omega⟩
  | succ k ih =>
    unfold clsF
    split
    · omega
    · omega
theorem clsF_lo {l : List Lx} (h : Srt l) (key : ByteArray) (si : Int) (me : ByteArray) (t : Int) {k : Nat} (hk : k ≤ loX l key) : clsF l key si me t k = -1 := by
  have hc := cutP_le (loP key) l
  induction k with
  | zero => rfl
  | succ k ih =>
    unfold clsF
    have hkl : k < l.length := by unfold loX at hk; omega
    have : matX key si me (lxAt l k) = false := by
      unfold matX
      cases e : eqB (lxAt l k).ke key
      · rfl
      · have := ((key_range h hkl).1 (eqB_iff.1 e)).1; omega
    rw [this, Bool.false_and, if_neg (by simp)]
    exact ih (by omega)
theorem clsF_succ (l : List Lx) (key : ByteArray) (si : Int) (me : ByteArray) (t : Int) (k : Nat) : clsF l key si me t (k + 1) = if (matX key si me (lxAt l k) && betX l t (lxAt l k) (clsF l key si me t k)) = true then (k : Int) else clsF l key si me t k := rfl
theorem clsF_hi {l : List Lx} (h : Srt l) (key : ByteArray) (si : Int) (me : ByteArray) (t : Int) : ∀ d k, k = hiX l key + d → k ≤ l.length → clsF l key si me t k = clsF l key si me t (hiX l key) := by
  intro d
  induction d with
  | zero => intro k e _; rw [e]; rfl
  | succ d ih =>
    intro k e hk
    obtain ⟨j, rfl⟩ : ∃ j, k = j + 1 := ⟨k - 1, by omega⟩
    rw [clsF_succ]
    have hkl : j < l.length := by omega
    have : matX key si me (lxAt l j) = false := by
      unfold matX
      cases e : eqB (lxAt l j).ke key
      · rfl
      · have := ((key_range h hkl).1 (eqB_iff.1 e)).2; omega
    rw [this, Bool.false_and, if_neg (by simp)]
    exact ih j (by omega) (by omega)
theorem clsF_end {l : List Lx} (h : Srt l) (key : ByteArray) (si : Int) (me : ByteArray) (t : Int) : clsF l key si me t (hiX l key) = clsF l key si me t l.length := by
  have hc : hiX l key ≤ l.length := cutP_le _ l
  exact (clsF_hi h key si me t (l.length - hiX l key) l.length (by omega) (Nat.le_refl _)).symm
/-! An index's text. -/
def itxL (l : List Lx) : List UInt8 := l.flatMap (fun x => (litB x).data.toList ++ [10])
def itxB (l : List Lx) : ByteArray := ⟨(itxL l).toArray⟩
def itxX (l : List Lx) : ByteArray := if idxQ l = true then itxB l else ⟨#[]⟩
theorem itxL_take {l : List Lx} {k : Nat} (h : k < l.length) : itxL (l.take (k + 1)) = itxL (l.take k) ++ ((litB (lxAt l k)).data.toList ++ [10]) := by
  rw [List.take_succ_eq_append_getElem h, lxAt_get h]
  unfold itxL
  rw [List.flatMap_append]
  simp
theorem itxL_cons (x : Lx) (l : List Lx) : itxL (x :: l) = ((litB x).data.toList ++ [10]) ++ itxL l := by unfold itxL; rw [List.flatMap_cons]
theorem dat_mk (l : List UInt8) : (⟨l.toArray⟩ : ByteArray).data.toList = l := rfl
theorem itxB_nil : itxB [] = ⟨#[]⟩ := rfl
theorem itxB_cons (x : Lx) (l : List Lx) : itxB (x :: l) = (litB x ++ (⟨#[10]⟩ : ByteArray)) ++ itxB l := by
  apply bytes_ext
  rw [Go.Joins.data_append, Go.Joins.data_append]
  unfold itxB
  rw [dat_mk, dat_mk, itxL_cons]
theorem itxL_len (l : List Lx) : (itxL l).length ≤ 351 * l.length := by
  induction l with
  | nil => simp [itxL]
  | cons x l ih =>
    rw [itxL_cons, List.length_append, List.length_append, len_data]
    have := lit_all x
    have e1 : ([10] : List UInt8).length = 1 := rfl
    have e2 : (x :: l).length = l.length + 1 := rfl
    omega
/-! An index read. -/
def rdiL : List Lx → List ByteArray → Option (List Lx)
  | _, [] => none
  | acc, [p] => if p.size = 0 then some acc else none
  | acc, p :: q :: r => if (rdlO p && fitB acc (rdlX p)) = true then rdiL (acc ++ [rdlX p]) (q :: r) else none
def rdiF (s : ByteArray) : Option (List Lx) := rdiL [] (splS 10 s)
def rdiO (s : ByteArray) : Bool := (rdiF s).isSome
def rdiX (s : ByteArray) : List Lx := (rdiF s).getD []
/-- As the specification reads it: all lines, then the index. -/
def allR (ws : List ByteArray) : Bool := ws.all rdlO
theorem rdiL_end (ws : List ByteArray) : ∀ (acc : List Lx) (e : ByteArray), rdiL acc (ws ++ [e]) =
    if e.size = 0 ∧ allR ws = true ∧ (∀ k, k < ws.length → fitB (acc ++ (ws.take k).map rdlX) (rdlX (ws.getD k ⟨#[]⟩)) = true) then some (acc ++ ws.map rdlX) else none := by
  induction ws with
  | nil => intro acc e; simp [rdiL, allR]
  | cons p ws ih =>
    intro acc e
    have hs : rdiL acc (p :: ws ++ [e]) = if (rdlO p && fitB acc (rdlX p)) = true then rdiL (acc ++ [rdlX p]) (ws ++ [e]) else none := by
      cases ws with
      | nil => rfl
      | cons q r => rfl
    rw [hs, ih]
    cases h1 : rdlO p
    · rw [Bool.false_and, if_neg (by simp), if_neg]
      rintro ⟨_, h2, _⟩
      unfold allR at h2
      rw [List.all_cons, h1] at h2; cases h2
    · rw [Bool.true_and]
      cases h2 : fitB acc (rdlX p)
      · rw [if_neg (by simp), if_neg]
        rintro ⟨_, _, h3⟩
        have := h3 0 (by simp)
        simp only [List.take_zero, List.map_nil, List.append_nil, List.getD_cons_zero] at this
        rw [h2] at this; cases this
      · rw [if_pos rfl]
        have e1 : acc ++ [rdlX p] ++ ws.map rdlX = acc ++ (p :: ws).map rdlX := by simp
        rw [e1]
        have hiff : (e.size = 0 ∧ allR ws = true ∧ ∀ k, k < ws.length → fitB (acc ++ [rdlX p] ++ (ws.take k).map rdlX) (rdlX (ws.getD k ⟨#[]⟩)) = true) ↔ (e.size = 0 ∧ allR (p :: ws) = true ∧ ∀ k, k < (p :: ws).length → fitB (acc ++ ((p :: ws).take k).map rdlX) (rdlX ((p :: ws).getD k ⟨#[]⟩)) = true) := by
          refine and_congr Iff.rfl (and_congr ?_ ?_)
          · unfold allR; rw [List.all_cons, h1, Bool.true_and]
          · constructor
            · intro h k hk
              cases k with
              | zero => simpa using h2
              | succ k =>
                have := h k (by simp only [List.length_cons] at hk; omega)
                simpa using this
            · intro h k hk
              have := h (k + 1) (by simp only [List.length_cons]; omega)
              simpa using this
        by_cases hh : (e.size = 0 ∧ allR ws = true ∧ ∀ k, k < ws.length → fitB (acc ++ [rdlX p] ++ (ws.take k).map rdlX) (rdlX (ws.getD k ⟨#[]⟩)) = true)
        · rw [if_pos hh, if_pos (hiff.1 hh)]
        · rw [if_neg hh, if_neg (fun h => hh (hiff.2 h))]
/-- Lines that fit one behind the other are an index. -/
theorem fit_all {l : List Lx} : (∀ k, k < l.length → fitB (l.take k) (lxAt l k) = true) ↔ idxQ l = true := by
  constructor
  · intro h
    have h4 : l.length ≤ 400 := by
      rcases Nat.lt_or_ge 400 l.length with h1 | h1
      · have := h 400 h1
        unfold fitB at this
        rw [List.length_take, Nat.min_eq_left (by omega)] at this
        simp at this
      · exact h1
    unfold idxQ idxP
    rw [decide_eq_true h4, Bool.true_and, List.all_eq_true]
    intro k hk
    have hk' := List.mem_range.1 hk
    rw [← fitB_take hk' (by omega)]
    exact h k hk'
  · intro h k hk
    unfold idxQ at h
    rw [Bool.and_eq_true, decide_eq_true_iff] at h
    rw [fitB_take hk (by omega)]
    exact idxP_fit hk h.2
theorem rdlX_nil (ws : List ByteArray) (k : Nat) (h : k < ws.length) : rdlX (ws.getD k ⟨#[]⟩) = lxAt (ws.map rdlX) k := by
  rw [lxAt_get (by simpa using h), List.getD, List.getElem?_eq_getElem h]
  simp
theorem rdiF_end (ws : List ByteArray) (e : ByteArray) : rdiL [] (ws ++ [e]) = if e.size = 0 ∧ allR ws = true ∧ idxQ (ws.map rdlX) = true then some (ws.map rdlX) else none := by
  rw [rdiL_end]
  have hiff : (∀ k, k < ws.length → fitB ([] ++ (ws.take k).map rdlX) (rdlX (ws.getD k ⟨#[]⟩)) = true) ↔ idxQ (ws.map rdlX) = true := by
    rw [← fit_all]
    constructor
    · intro h k hk
      rw [List.length_map] at hk
      have := h k hk
      rw [rdlX_nil _ _ hk, List.nil_append, List.map_take] at this
      exact this
    · intro h k hk
      have := h k (by rw [List.length_map]; exact hk)
      rw [rdlX_nil _ _ hk, List.nil_append, List.map_take]
      exact this
  by_cases hh : (e.size = 0 ∧ allR ws = true ∧ ∀ k, k < ws.length → fitB ([] ++ (ws.take k).map rdlX) (rdlX (ws.getD k ⟨#[]⟩)) = true)
  · rw [if_pos hh, if_pos ⟨hh.1, hh.2.1, hiff.1 hh.2.2⟩]; rfl
  · rw [if_neg hh, if_neg (fun h => hh ⟨h.1, h.2.1, hiff.2 h.2.2⟩)]
end Go.Proofs.YtenjbgpndkodmacGreatDoor
namespace Go.Proofs.YtenjbgpndkodmacGreatDoor
set_option linter.unusedVariables false
set_option linter.unusedSimpArgs false
open Go.RowKit
theorem bl3 (c : UInt8) : (⟨#[32, c, 32]⟩ : ByteArray) = ((⟨#[32]⟩ : ByteArray) ++ ⟨#[c]⟩) ++ ⟨#[32]⟩ := by
  apply bytes_ext
  rw [Go.Joins.data_append, Go.Joins.data_append]
  rfl
theorem joinS10 (a0 a1 a2 a3 a4 a5 a6 a7 a8 a9 : ByteArray) : joinS 32 [a0, a1, a2, a3, a4, a5, a6, a7, a8, a9] = ((((((((((((((((((a0 ++ (⟨#[32]⟩ : ByteArray)) ++ a1) ++ (⟨#[32]⟩ : ByteArray)) ++ a2) ++ (⟨#[32]⟩ : ByteArray)) ++ a3) ++ (⟨#[32]⟩ : ByteArray)) ++ a4) ++ (⟨#[32]⟩ : ByteArray)) ++ a5) ++ (⟨#[32]⟩ : ByteArray)) ++ a6) ++ (⟨#[32]⟩ : ByteArray)) ++ a7) ++ (⟨#[32]⟩ : ByteArray)) ++ a8) ++ (⟨#[32]⟩ : ByteArray)) ++ a9) := by
  rw [joinS_two, joinS_two, joinS_two, joinS_two, joinS_two, joinS_two, joinS_two, joinS_two, joinS_two, joinS_one]
  simp only [← bytes_assoc]
theorem lit_form (a0 a1 a3 a4 a5 a7 a8 a9 : ByteArray) (c d : UInt8) : joinS 32 [a0, a1, ⟨#[c]⟩, a3, a4, a5, ⟨#[d]⟩, a7, a8, a9] = (((((((((((((a0 ++ (⟨#[32]⟩ : ByteArray)) ++ a1) ++ ⟨#[32, c, 32]⟩) ++ a3) ++ (⟨#[32]⟩ : ByteArray)) ++ a4) ++ (⟨#[32]⟩ : ByteArray)) ++ a5) ++ ⟨#[32, d, 32]⟩) ++ a7) ++ (⟨#[32]⟩ : ByteArray)) ++ a8) ++ (⟨#[32]⟩ : ByteArray)) ++ a9 := by
  rw [joinS10, bl3 c, bl3 d]
  simp only [← bytes_assoc]
set_option maxRecDepth 100000 in
set_option maxHeartbeats 4000000 in
theorem LineText_any (x : Lx) (w : World) (h1 : x.ke.size ≤ 1048576) (h2 : x.me.size ≤ 1048576) (h3 : x.la.size ≤ 1048576) (htab : Tab10 w) (hM : MonTab w) :
    Calls Tryz.prog 41 #[lxV x] w fun e w' => e = .returned (.string (litB x)) ∧ Below w.heap.size w w' := by
  have HK := hideB2 (fun W (h : Tab10 W) => LineOk_any x W h1 h2 h3 h)
  have HT := hideB2 htab
  have HMT := hideB2 hM
  have B1 := Blk.new w (lxC x) 45
  have HB := hideB2 (below_a1 w (.cells (lxC x) 45))
  clear h1 h2 h3 htab hM
  cases hq : linQ x
  · rw [litB_no hq]
    rw [hq] at HK
    clear hq
    obtain ⟨ke, ti, si, me, st, la, rv, se, wh, sz⟩ := x
    unfold lxV at *
    unfold lxC at *
    simp only at *
    go_enter Tryz.func41, Tryz.ntmps41
    go_wp2_with fail
    refine (HK.out _ (tab_later HT.out HB.out)).mono ?_
    rintro e1 w1 ⟨rfl, hb1⟩
    have HB1 := hideB2 (below_then HB.out hb1)
    clear hb1 B1
    go_wp2
    go_ret
    exact ⟨rfl, HB1.out⟩
  · have hz := lit_size hq
    rw [litB_yes hq] at *
    rw [hq] at HK
    clear hq
    have HJ := hideB2 (fun w0 W v hb => JoinS_any w0 W v 32 (wdsX x) hb (by simp [wdsX]) (by omega))
    unfold wdsX at *
    generalize joinS 32 [x.ke, stpT x.ti, sdW x.si, x.me, decT x.st, x.la, rvW x.rv, decT x.se, decT x.wh, decT x.sz] = R at *
    obtain ⟨ke, ti, si, me, st, la, rv, se, wh, sz⟩ := x
    unfold lxV at *
    unfold lxC at *
    simp only at *
    go_enter Tryz.func41, Tryz.ntmps41
    go_wp2_with fail
    refine (HK.out _ (tab_later HT.out HB.out)).mono ?_
    rintro e1 w1 ⟨rfl, hb1⟩
    have B2 := B1.later hb1
    have HB1 := hideB2 (below_then HB.out hb1)
    have HT1 := hideB2 (fun V : Gr w1 => tab_later (tab_later HT.out HB1.out) (grw_below w1 V))
    have HM1 := hideB2 (fun V : Gr w1 => (HMT.out.below HB1.out).below (grw_below w1 V))
    clear hb1 B1
    obtain ⟨p0, p1, p2, p3, p4, p5, p6, p7, p8, p9⟩ := B2.c10
    have a0 := fun V => grw_some p0 V
    have a1 := fun V => grw_some p1 V
    have a2 := fun V => grw_some p2 V
    have a3 := fun V => grw_some p3 V
    have a4 := fun V => grw_some p4 V
    have a5 := fun V => grw_some p5 V
    have a6 := fun V => grw_some p6 V
    have a7 := fun V => grw_some p7 V
    have a8 := fun V => grw_some p8 V
    have a9 := fun V => grw_some p9 V
    clear p0 p1 p2 p3 p4 p5 p6 p7 p8 p9 B2
    go_wp2_with fail
    refine wp_region_grow_tail 27 ?_ ?_ ?_
    · kernel_rfl
    · kernel_rfl
    · intro hne
      simp only [List.take_succ_cons, List.take_zero, List.drop_succ_cons, List.drop_zero]
      repeat (go_big_quiet_step (first
        | (go_at_call 59; exact grow_call (Stamp_all _ _ (HM1.out _)))
        | (go_at_call 60; exact grow_same (sideWord_any _ _))
        | (go_at_call 61; exact grow_call (DecText_all _ _ (HT1.out _)))
        | (go_at_call 62; exact grow_same (kindWord_any _ _))))
      refine wpQuiet_nil ?_
      rintro _ ⟨V, rfl⟩
      have HB2 := hideB2 (below_then HB1.out (grw_below w1 V))
      clear a0 a1 a2 a3 a4 a5 a6 a7 a8 a9 HT1 HM1
      generalize grw w1 V = w3 at *
      generalize stpT ti = s1 at *
      generalize sdW si = s2 at *
      generalize decT st = s4 at *
      generalize rvW rv = s6 at *
      generalize decT se = s7 at *
      generalize decT wh = s8 at *
      generalize decT sz = s9 at *
      have HBF := hideB2 (buf_made w3 [ke, s1, s2, me, s4, la, s6, s7, s8, s9] (by simp) (by simp [maxLen]))
      go_wp2_with fail
      refine (HJ.out _ _ _ HBF.out).mono ?_
      rintro e4 w4 ⟨rfl, hb4⟩
      have HB4 := hideB2 (below_then HB2.out (below_then (below_a1 w3 _) hb4))
      clear hb4
      go_wp2
      go_ret
      exact ⟨rfl, HB4.out⟩
set_option maxRecDepth 100000 in
set_option maxHeartbeats 4000000 in
theorem l9text_any (x : Lx) (w : World) (h1 : x.ke.size ≤ 1048576) (h2 : x.me.size ≤ 1048576) (h3 : x.la.size ≤ 1048576) :
    Calls Tryz.prog 39 #[lxV x] w fun e w' => e = .returned (.string (joinS 32 (wdsX x))) ∧ Below w.heap.size w w' := by
  have HB := hideB2 (below_a1 w (.cells (lxC x) 45))
  have A1 := Blk.new w (lxC x) 45
  have z1 := stpT_size x.ti
  have z4 := decT_size x.st
  have z7 := decT_size x.se
  have z8 := decT_size x.wh
  have z9 := decT_size x.sz
  have HE : Hid (∀ c d : UInt8, sdW x.si = ⟨#[c]⟩ → rvW x.rv = ⟨#[d]⟩ → joinS 32 (wdsX x) = (((((((((((((x.ke ++ (⟨#[32]⟩ : ByteArray)) ++ stpT x.ti) ++ ⟨#[32, c, 32]⟩) ++ x.me) ++ (⟨#[32]⟩ : ByteArray)) ++ decT x.st) ++ (⟨#[32]⟩ : ByteArray)) ++ x.la) ++ ⟨#[32, d, 32]⟩) ++ decT x.se) ++ (⟨#[32]⟩ : ByteArray)) ++ decT x.wh) ++ (⟨#[32]⟩ : ByteArray)) ++ decT x.sz) := by
    intro c d hc hd
    unfold wdsX
    rw [hc, hd]
    exact lit_form _ _ _ _ _ _ _ _ c d
  have HS1 := hideB2 (fun W => sStamp_all x.ti W)
  have HD := hideB2 (fun n W => sDecText_all n W)
  generalize joinS 32 (wdsX x) = R at *
  obtain ⟨ke, ti, si, me, st, la, rv, se, wh, sz⟩ := x
  unfold lxV at *
  unfold lxC at *
  simp only at *
  have y0 : (⟨#[32]⟩ : ByteArray).size = 1 := rfl
  by_cases hs : si = 1
  · cases rv
    · skip
      subst hs
      have HR := hideB2 (HE.out 111 45 (by rfl) rfl)
      have y1 : (⟨#[32, 111, 32]⟩ : ByteArray).size = 3 := rfl
      have y2 : (⟨#[32, 45, 32]⟩ : ByteArray).size = 3 := rfl
      clear HE
      have k0 : (ke ++ (⟨#[32]⟩ : ByteArray)).size ≤ 1048577 := by rw [ByteArray.size_append]; omega
      have k1 : ((ke ++ (⟨#[32]⟩ : ByteArray)) ++ stpT ti).size ≤ 1048591 := by rw [ByteArray.size_append]; omega
      have k2 : (((ke ++ (⟨#[32]⟩ : ByteArray)) ++ stpT ti) ++ (⟨#[32, 111, 32]⟩ : ByteArray)).size ≤ 1048594 := by rw [ByteArray.size_append]; omega
      have k3 : ((((ke ++ (⟨#[32]⟩ : ByteArray)) ++ stpT ti) ++ (⟨#[32, 111, 32]⟩ : ByteArray)) ++ me).size ≤ 2097170 := by rw [ByteArray.size_append]; omega
      have k4 : (((((ke ++ (⟨#[32]⟩ : ByteArray)) ++ stpT ti) ++ (⟨#[32, 111, 32]⟩ : ByteArray)) ++ me) ++ (⟨#[32]⟩ : ByteArray)).size ≤ 2097171 := by rw [ByteArray.size_append]; omega
      have k5 : ((((((ke ++ (⟨#[32]⟩ : ByteArray)) ++ stpT ti) ++ (⟨#[32, 111, 32]⟩ : ByteArray)) ++ me) ++ (⟨#[32]⟩ : ByteArray)) ++ decT st).size ≤ 2097186 := by rw [ByteArray.size_append]; omega
      have k6 : (((((((ke ++ (⟨#[32]⟩ : ByteArray)) ++ stpT ti) ++ (⟨#[32, 111, 32]⟩ : ByteArray)) ++ me) ++ (⟨#[32]⟩ : ByteArray)) ++ decT st) ++ (⟨#[32]⟩ : ByteArray)).size ≤ 2097187 := by rw [ByteArray.size_append]; omega
      have k7 : ((((((((ke ++ (⟨#[32]⟩ : ByteArray)) ++ stpT ti) ++ (⟨#[32, 111, 32]⟩ : ByteArray)) ++ me) ++ (⟨#[32]⟩ : ByteArray)) ++ decT st) ++ (⟨#[32]⟩ : ByteArray)) ++ la).size ≤ 3145763 := by rw [ByteArray.size_append]; omega
      have k8 : (((((((((ke ++ (⟨#[32]⟩ : ByteArray)) ++ stpT ti) ++ (⟨#[32, 111, 32]⟩ : ByteArray)) ++ me) ++ (⟨#[32]⟩ : ByteArray)) ++ decT st) ++ (⟨#[32]⟩ : ByteArray)) ++ la) ++ (⟨#[32, 45, 32]⟩ : ByteArray)).size ≤ 3145766 := by rw [ByteArray.size_append]; omega
      have k9 : ((((((((((ke ++ (⟨#[32]⟩ : ByteArray)) ++ stpT ti) ++ (⟨#[32, 111, 32]⟩ : ByteArray)) ++ me) ++ (⟨#[32]⟩ : ByteArray)) ++ decT st) ++ (⟨#[32]⟩ : ByteArray)) ++ la) ++ (⟨#[32, 45, 32]⟩ : ByteArray)) ++ decT se).size ≤ 3145781 := by rw [ByteArray.size_append]; omega
      have k10 : (((((((((((ke ++ (⟨#[32]⟩ : ByteArray)) ++ stpT ti) ++ (⟨#[32, 111, 32]⟩ : ByteArray)) ++ me) ++ (⟨#[32]⟩ : ByteArray)) ++ decT st) ++ (⟨#[32]⟩ : ByteArray)) ++ la) ++ (⟨#[32, 45, 32]⟩ : ByteArray)) ++ decT se) ++ (⟨#[32]⟩ : ByteArray)).size ≤ 3145782 := by rw [ByteArray.size_append]; omega
      have k11 : ((((((((((((ke ++ (⟨#[32]⟩ : ByteArray)) ++ stpT ti) ++ (⟨#[32, 111, 32]⟩ : ByteArray)) ++ me) ++ (⟨#[32]⟩ : ByteArray)) ++ decT st) ++ (⟨#[32]⟩ : ByteArray)) ++ la) ++ (⟨#[32, 45, 32]⟩ : ByteArray)) ++ decT se) ++ (⟨#[32]⟩ : ByteArray)) ++ decT wh).size ≤ 3145797 := by rw [ByteArray.size_append]; omega
      have k12 : (((((((((((((ke ++ (⟨#[32]⟩ : ByteArray)) ++ stpT ti) ++ (⟨#[32, 111, 32]⟩ : ByteArray)) ++ me) ++ (⟨#[32]⟩ : ByteArray)) ++ decT st) ++ (⟨#[32]⟩ : ByteArray)) ++ la) ++ (⟨#[32, 45, 32]⟩ : ByteArray)) ++ decT se) ++ (⟨#[32]⟩ : ByteArray)) ++ decT wh) ++ (⟨#[32]⟩ : ByteArray)).size ≤ 3145798 := by rw [ByteArray.size_append]; omega
      have k13 : ((((((((((((((ke ++ (⟨#[32]⟩ : ByteArray)) ++ stpT ti) ++ (⟨#[32, 111, 32]⟩ : ByteArray)) ++ me) ++ (⟨#[32]⟩ : ByteArray)) ++ decT st) ++ (⟨#[32]⟩ : ByteArray)) ++ la) ++ (⟨#[32, 45, 32]⟩ : ByteArray)) ++ decT se) ++ (⟨#[32]⟩ : ByteArray)) ++ decT wh) ++ (⟨#[32]⟩ : ByteArray)) ++ decT sz).size ≤ 3145813 := by rw [ByteArray.size_append]; omega
      go_enter Tryz.func39, Tryz.ntmps39
      go_wp2
      generalize hW : w.alloc (.cells #[.string ke, .int .i64 ti, .int .i64 1, .string me, .int .i64 st, .string la, .bool false, .int .i64 se, .int .i64 wh, .int .i64 sz] 45) = W at *
      clear hW
      obtain ⟨p0, p1, p2, p3, p4, p5, p6, p7, p8, p9⟩ := A1.c10
      have a0 := fun V => grw_some p0 V
      have a1 := fun V => grw_some p1 V
      have a2 := fun V => grw_some p2 V
      have a3 := fun V => grw_some p3 V
      have a4 := fun V => grw_some p4 V
      have a5 := fun V => grw_some p5 V
      have a6 := fun V => grw_some p6 V
      have a7 := fun V => grw_some p7 V
      have a8 := fun V => grw_some p8 V
      have a9 := fun V => grw_some p9 V
      clear p0 p1 p2 p3 p4 p5 p6 p7 p8 p9 A1
      refine wp_region_grow ?_ ?_ ?_
      · kernel_rfl
      · kernel_rfl
      · intro hne
        repeat (go_big_quiet_step (first
          | (go_at_call 55; exact grow_call (HS1.out _))
          | (go_at_call 56; exact grow_call (HD.out _ _))))
        refine wpQuiet_nil ?_
        rintro _ ⟨V, rfl⟩
        have HBV := hideB2 (below_then HB.out (grw_below W V))
        generalize grw W V = w3 at *
        go_wp2
        go_ret
        exact ⟨ret_str HR.out, HBV.out⟩
    · skip
      subst hs
      have HR := hideB2 (HE.out 111 114 (by rfl) rfl)
      have y1 : (⟨#[32, 111, 32]⟩ : ByteArray).size = 3 := rfl
      have y2 : (⟨#[32, 114, 32]⟩ : ByteArray).size = 3 := rfl
      clear HE
      have k0 : (ke ++ (⟨#[32]⟩ : ByteArray)).size ≤ 1048577 := by rw [ByteArray.size_append]; omega
      have k1 : ((ke ++ (⟨#[32]⟩ : ByteArray)) ++ stpT ti).size ≤ 1048591 := by rw [ByteArray.size_append]; omega
      have k2 : (((ke ++ (⟨#[32]⟩ : ByteArray)) ++ stpT ti) ++ (⟨#[32, 111, 32]⟩ : ByteArray)).size ≤ 1048594 := by rw [ByteArray.size_append]; omega
      have k3 : ((((ke ++ (⟨#[32]⟩ : ByteArray)) ++ stpT ti) ++ (⟨#[32, 111, 32]⟩ : ByteArray)) ++ me).size ≤ 2097170 := by rw [ByteArray.size_append]; omega
      have k4 : (((((ke ++ (⟨#[32]⟩ : ByteArray)) ++ stpT ti) ++ (⟨#[32, 111, 32]⟩ : ByteArray)) ++ me) ++ (⟨#[32]⟩ : ByteArray)).size ≤ 2097171 := by rw [ByteArray.size_append]; omega
      have k5 : ((((((ke ++ (⟨#[32]⟩ : ByteArray)) ++ stpT ti) ++ (⟨#[32, 111, 32]⟩ : ByteArray)) ++ me) ++ (⟨#[32]⟩ : ByteArray)) ++ decT st).size ≤ 2097186 := by rw [ByteArray.size_append]; omega
      have k6 : (((((((ke ++ (⟨#[32]⟩ : ByteArray)) ++ stpT ti) ++ (⟨#[32, 111, 32]⟩ : ByteArray)) ++ me) ++ (⟨#[32]⟩ : ByteArray)) ++ decT st) ++ (⟨#[32]⟩ : ByteArray)).size ≤ 2097187 := by rw [ByteArray.size_append]; omega
      have k7 : ((((((((ke ++ (⟨#[32]⟩ : ByteArray)) ++ stpT ti) ++ (⟨#[32, 111, 32]⟩ : ByteArray)) ++ me) ++ (⟨#[32]⟩ : ByteArray)) ++ decT st) ++ (⟨#[32]⟩ : ByteArray)) ++ la).size ≤ 3145763 := by rw [ByteArray.size_append]; omega
      have k8 : (((((((((ke ++ (⟨#[32]⟩ : ByteArray)) ++ stpT ti) ++ (⟨#[32, 111, 32]⟩ : ByteArray)) ++ me) ++ (⟨#[32]⟩ : ByteArray)) ++ decT st) ++ (⟨#[32]⟩ : ByteArray)) ++ la) ++ (⟨#[32, 114, 32]⟩ : ByteArray)).size ≤ 3145766 := by rw [ByteArray.size_append]; omega
      have k9 : ((((((((((ke ++ (⟨#[32]⟩ : ByteArray)) ++ stpT ti) ++ (⟨#[32, 111, 32]⟩ : ByteArray)) ++ me) ++ (⟨#[32]⟩ : ByteArray)) ++ decT st) ++ (⟨#[32]⟩ : ByteArray)) ++ la) ++ (⟨#[32, 114, 32]⟩ : ByteArray)) ++ decT se).size ≤ 3145781 := by rw [ByteArray.size_append]; omega
      have k10 : (((((((((((ke ++ (⟨#[32]⟩ : ByteArray)) ++ stpT ti) ++ (⟨#[32, 111, 32]⟩ : ByteArray)) ++ me) ++ (⟨#[32]⟩ : ByteArray)) ++ decT st) ++ (⟨#[32]⟩ : ByteArray)) ++ la) ++ (⟨#[32, 114, 32]⟩ : ByteArray)) ++ decT se) ++ (⟨#[32]⟩ : ByteArray)).size ≤ 3145782 := by rw [ByteArray.size_append]; omega
      have k11 : ((((((((((((ke ++ (⟨#[32]⟩ : ByteArray)) ++ stpT ti) ++ (⟨#[32, 111, 32]⟩ : ByteArray)) ++ me) ++ (⟨#[32]⟩ : ByteArray)) ++ decT st) ++ (⟨#[32]⟩ : ByteArray)) ++ la) ++ (⟨#[32, 114, 32]⟩ : ByteArray)) ++ decT se) ++ (⟨#[32]⟩ : ByteArray)) ++ decT wh).size ≤ 3145797 := by rw [ByteArray.size_append]; omega
      have k12 : (((((((((((((ke ++ (⟨#[32]⟩ : ByteArray)) ++ stpT ti) ++ (⟨#[32, 111, 32]⟩ : ByteArray)) ++ me) ++ (⟨#[32]⟩ : ByteArray)) ++ decT st) ++ (⟨#[32]⟩ : ByteArray)) ++ la) ++ (⟨#[32, 114, 32]⟩ : ByteArray)) ++ decT se) ++ (⟨#[32]⟩ : ByteArray)) ++ decT wh) ++ (⟨#[32]⟩ : ByteArray)).size ≤ 3145798 := by rw [ByteArray.size_append]; omega
      have k13 : ((((((((((((((ke ++ (⟨#[32]⟩ : ByteArray)) ++ stpT ti) ++ (⟨#[32, 111, 32]⟩ : ByteArray)) ++ me) ++ (⟨#[32]⟩ : ByteArray)) ++ decT st) ++ (⟨#[32]⟩ : ByteArray)) ++ la) ++ (⟨#[32, 114, 32]⟩ : ByteArray)) ++ decT se) ++ (⟨#[32]⟩ : ByteArray)) ++ decT wh) ++ (⟨#[32]⟩ : ByteArray)) ++ decT sz).size ≤ 3145813 := by rw [ByteArray.size_append]; omega
      go_enter Tryz.func39, Tryz.ntmps39
      go_wp2
      generalize hW : w.alloc (.cells #[.string ke, .int .i64 ti, .int .i64 1, .string me, .int .i64 st, .string la, .bool true, .int .i64 se, .int .i64 wh, .int .i64 sz] 45) = W at *
      clear hW
      obtain ⟨p0, p1, p2, p3, p4, p5, p6, p7, p8, p9⟩ := A1.c10
      have a0 := fun V => grw_some p0 V
      have a1 := fun V => grw_some p1 V
      have a2 := fun V => grw_some p2 V
      have a3 := fun V => grw_some p3 V
      have a4 := fun V => grw_some p4 V
      have a5 := fun V => grw_some p5 V
      have a6 := fun V => grw_some p6 V
      have a7 := fun V => grw_some p7 V
      have a8 := fun V => grw_some p8 V
      have a9 := fun V => grw_some p9 V
      clear p0 p1 p2 p3 p4 p5 p6 p7 p8 p9 A1
      refine wp_region_grow ?_ ?_ ?_
      · kernel_rfl
      · kernel_rfl
      · intro hne
        repeat (go_big_quiet_step (first
          | (go_at_call 55; exact grow_call (HS1.out _))
          | (go_at_call 56; exact grow_call (HD.out _ _))))
        refine wpQuiet_nil ?_
        rintro _ ⟨V, rfl⟩
        have HBV := hideB2 (below_then HB.out (grw_below W V))
        generalize grw W V = w3 at *
        go_wp2
        go_ret
        exact ⟨ret_str HR.out, HBV.out⟩
  · have hsb : (si == 1) = false := by simpa using hs
    cases rv
    · skip
      have HR := hideB2 (HE.out 99 45 (by unfold sdW; rw [if_neg hs]) rfl)
      have y1 : (⟨#[32, 99, 32]⟩ : ByteArray).size = 3 := rfl
      have y2 : (⟨#[32, 45, 32]⟩ : ByteArray).size = 3 := rfl
      clear HE
      have k0 : (ke ++ (⟨#[32]⟩ : ByteArray)).size ≤ 1048577 := by rw [ByteArray.size_append]; omega
      have k1 : ((ke ++ (⟨#[32]⟩ : ByteArray)) ++ stpT ti).size ≤ 1048591 := by rw [ByteArray.size_append]; omega
      have k2 : (((ke ++ (⟨#[32]⟩ : ByteArray)) ++ stpT ti) ++ (⟨#[32, 99, 32]⟩ : ByteArray)).size ≤ 1048594 := by rw [ByteArray.size_append]; omega
      have k3 : ((((ke ++ (⟨#[32]⟩ : ByteArray)) ++ stpT ti) ++ (⟨#[32, 99, 32]⟩ : ByteArray)) ++ me).size ≤ 2097170 := by rw [ByteArray.size_append]; omega
      have k4 : (((((ke ++ (⟨#[32]⟩ : ByteArray)) ++ stpT ti) ++ (⟨#[32, 99, 32]⟩ : ByteArray)) ++ me) ++ (⟨#[32]⟩ : ByteArray)).size ≤ 2097171 := by rw [ByteArray.size_append]; omega
      have k5 : ((((((ke ++ (⟨#[32]⟩ : ByteArray)) ++ stpT ti) ++ (⟨#[32, 99, 32]⟩ : ByteArray)) ++ me) ++ (⟨#[32]⟩ : ByteArray)) ++ decT st).size ≤ 2097186 := by rw [ByteArray.size_append]; omega
      have k6 : (((((((ke ++ (⟨#[32]⟩ : ByteArray)) ++ stpT ti) ++ (⟨#[32, 99, 32]⟩ : ByteArray)) ++ me) ++ (⟨#[32]⟩ : ByteArray)) ++ decT st) ++ (⟨#[32]⟩ : ByteArray)).size ≤ 2097187 := by rw [ByteArray.size_append]; omega
      have k7 : ((((((((ke ++ (⟨#[32]⟩ : ByteArray)) ++ stpT ti) ++ (⟨#[32, 99, 32]⟩ : ByteArray)) ++ me) ++ (⟨#[32]⟩ : ByteArray)) ++ decT st) ++ (⟨#[32]⟩ : ByteArray)) ++ la).size ≤ 3145763 := by rw [ByteArray.size_append]; omega
      have k8 : (((((((((ke ++ (⟨#[32]⟩ : ByteArray)) ++ stpT ti) ++ (⟨#[32, 99, 32]⟩ : ByteArray)) ++ me) ++ (⟨#[32]⟩ : ByteArray)) ++ decT st) ++ (⟨#[32]⟩ : ByteArray)) ++ la) ++ (⟨#[32, 45, 32]⟩ : ByteArray)).size ≤ 3145766 := by rw [ByteArray.size_append]; omega
      have k9 : ((((((((((ke ++ (⟨#[32]⟩ : ByteArray)) ++ stpT ti) ++ (⟨#[32, 99, 32]⟩ : ByteArray)) ++ me) ++ (⟨#[32]⟩ : ByteArray)) ++ decT st) ++ (⟨#[32]⟩ : ByteArray)) ++ la) ++ (⟨#[32, 45, 32]⟩ : ByteArray)) ++ decT se).size ≤ 3145781 := by rw [ByteArray.size_append]; omega
      have k10 : (((((((((((ke ++ (⟨#[32]⟩ : ByteArray)) ++ stpT ti) ++ (⟨#[32, 99, 32]⟩ : ByteArray)) ++ me) ++ (⟨#[32]⟩ : ByteArray)) ++ decT st) ++ (⟨#[32]⟩ : ByteArray)) ++ la) ++ (⟨#[32, 45, 32]⟩ : ByteArray)) ++ decT se) ++ (⟨#[32]⟩ : ByteArray)).size ≤ 3145782 := by rw [ByteArray.size_append]; omega
      have k11 : ((((((((((((ke ++ (⟨#[32]⟩ : ByteArray)) ++ stpT ti) ++ (⟨#[32, 99, 32]⟩ : ByteArray)) ++ me) ++ (⟨#[32]⟩ : ByteArray)) ++ decT st) ++ (⟨#[32]⟩ : ByteArray)) ++ la) ++ (⟨#[32, 45, 32]⟩ : ByteArray)) ++ decT se) ++ (⟨#[32]⟩ : ByteArray)) ++ decT wh).size ≤ 3145797 := by rw [ByteArray.size_append]; omega
      have k12 : (((((((((((((ke ++ (⟨#[32]⟩ : ByteArray)) ++ stpT ti) ++ (⟨#[32, 99, 32]⟩ : ByteArray)) ++ me) ++ (⟨#[32]⟩ : ByteArray)) ++ decT st) ++ (⟨#[32]⟩ : ByteArray)) ++ la) ++ (⟨#[32, 45, 32]⟩ : ByteArray)) ++ decT se) ++ (⟨#[32]⟩ : ByteArray)) ++ decT wh) ++ (⟨#[32]⟩ : ByteArray)).size ≤ 3145798 := by rw [ByteArray.size_append]; omega
      have k13 : ((((((((((((((ke ++ (⟨#[32]⟩ : ByteArray)) ++ stpT ti) ++ (⟨#[32, 99, 32]⟩ : ByteArray)) ++ me) ++ (⟨#[32]⟩ : ByteArray)) ++ decT st) ++ (⟨#[32]⟩ : ByteArray)) ++ la) ++ (⟨#[32, 45, 32]⟩ : ByteArray)) ++ decT se) ++ (⟨#[32]⟩ : ByteArray)) ++ decT wh) ++ (⟨#[32]⟩ : ByteArray)) ++ decT sz).size ≤ 3145813 := by rw [ByteArray.size_append]; omega
      go_enter Tryz.func39, Tryz.ntmps39
      go_wp2
      generalize hW : w.alloc (.cells #[.string ke, .int .i64 ti, .int .i64 si, .string me, .int .i64 st, .string la, .bool false, .int .i64 se, .int .i64 wh, .int .i64 sz] 45) = W at *
      clear hW
      obtain ⟨p0, p1, p2, p3, p4, p5, p6, p7, p8, p9⟩ := A1.c10
      have a0 := fun V => grw_some p0 V
      have a1 := fun V => grw_some p1 V
      have a2 := fun V => grw_some p2 V
      have a3 := fun V => grw_some p3 V
      have a4 := fun V => grw_some p4 V
      have a5 := fun V => grw_some p5 V
      have a6 := fun V => grw_some p6 V
      have a7 := fun V => grw_some p7 V
      have a8 := fun V => grw_some p8 V
      have a9 := fun V => grw_some p9 V
      clear p0 p1 p2 p3 p4 p5 p6 p7 p8 p9 A1
      refine wp_region_grow ?_ ?_ ?_
      · kernel_rfl
      · kernel_rfl
      · intro hne
        repeat (go_big_quiet_step (first
          | (go_at_call 55; exact grow_call (HS1.out _))
          | (go_at_call 56; exact grow_call (HD.out _ _))))
        refine wpQuiet_nil ?_
        rintro _ ⟨V, rfl⟩
        have HBV := hideB2 (below_then HB.out (grw_below W V))
        generalize grw W V = w3 at *
        go_wp2
        go_ret
        exact ⟨ret_str HR.out, HBV.out⟩
    · skip
      have HR := hideB2 (HE.out 99 114 (by unfold sdW; rw [if_neg hs]) rfl)
      have y1 : (⟨#[32, 99, 32]⟩ : ByteArray).size = 3 := rfl
      have y2 : (⟨#[32, 114, 32]⟩ : ByteArray).size = 3 := rfl
      clear HE
      have k0 : (ke ++ (⟨#[32]⟩ : ByteArray)).size ≤ 1048577 := by rw [ByteArray.size_append]; omega
      have k1 : ((ke ++ (⟨#[32]⟩ : ByteArray)) ++ stpT ti).size ≤ 1048591 := by rw [ByteArray.size_append]; omega
      have k2 : (((ke ++ (⟨#[32]⟩ : ByteArray)) ++ stpT ti) ++ (⟨#[32, 99, 32]⟩ : ByteArray)).size ≤ 1048594 := by rw [ByteArray.size_append]; omega
      have k3 : ((((ke ++ (⟨#[32]⟩ : ByteArray)) ++ stpT ti) ++ (⟨#[32, 99, 32]⟩ : ByteArray)) ++ me).size ≤ 2097170 := by rw [ByteArray.size_append]; omega
      have k4 : (((((ke ++ (⟨#[32]⟩ : ByteArray)) ++ stpT ti) ++ (⟨#[32, 99, 32]⟩ : ByteArray)) ++ me) ++ (⟨#[32]⟩ : ByteArray)).size ≤ 2097171 := by rw [ByteArray.size_append]; omega
      have k5 : ((((((ke ++ (⟨#[32]⟩ : ByteArray)) ++ stpT ti) ++ (⟨#[32, 99, 32]⟩ : ByteArray)) ++ me) ++ (⟨#[32]⟩ : ByteArray)) ++ decT st).size ≤ 2097186 := by rw [ByteArray.size_append]; omega
      have k6 : (((((((ke ++ (⟨#[32]⟩ : ByteArray)) ++ stpT ti) ++ (⟨#[32, 99, 32]⟩ : ByteArray)) ++ me) ++ (⟨#[32]⟩ : ByteArray)) ++ decT st) ++ (⟨#[32]⟩ : ByteArray)).size ≤ 2097187 := by rw [ByteArray.size_append]; omega
      have k7 : ((((((((ke ++ (⟨#[32]⟩ : ByteArray)) ++ stpT ti) ++ (⟨#[32, 99, 32]⟩ : ByteArray)) ++ me) ++ (⟨#[32]⟩ : ByteArray)) ++ decT st) ++ (⟨#[32]⟩ : ByteArray)) ++ la).size ≤ 3145763 := by rw [ByteArray.size_append]; omega
      have k8 : (((((((((ke ++ (⟨#[32]⟩ : ByteArray)) ++ stpT ti) ++ (⟨#[32, 99, 32]⟩ : ByteArray)) ++ me) ++ (⟨#[32]⟩ : ByteArray)) ++ decT st) ++ (⟨#[32]⟩ : ByteArray)) ++ la) ++ (⟨#[32, 114, 32]⟩ : ByteArray)).size ≤ 3145766 := by rw [ByteArray.size_append]; omega
      have k9 : ((((((((((ke ++ (⟨#[32]⟩ : ByteArray)) ++ stpT ti) ++ (⟨#[32, 99, 32]⟩ : ByteArray)) ++ me) ++ (⟨#[32]⟩ : ByteArray)) ++ decT st) ++ (⟨#[32]⟩ : ByteArray)) ++ la) ++ (⟨#[32, 114, 32]⟩ : ByteArray)) ++ decT se).size ≤ 3145781 := by rw [ByteArray.size_append]; omega
      have k10 : (((((((((((ke ++ (⟨#[32]⟩ : ByteArray)) ++ stpT ti) ++ (⟨#[32, 99, 32]⟩ : ByteArray)) ++ me) ++ (⟨#[32]⟩ : ByteArray)) ++ decT st) ++ (⟨#[32]⟩ : ByteArray)) ++ la) ++ (⟨#[32, 114, 32]⟩ : ByteArray)) ++ decT se) ++ (⟨#[32]⟩ : ByteArray)).size ≤ 3145782 := by rw [ByteArray.size_append]; omega
      have k11 : ((((((((((((ke ++ (⟨#[32]⟩ : ByteArray)) ++ stpT ti) ++ (⟨#[32, 99, 32]⟩ : ByteArray)) ++ me) ++ (⟨#[32]⟩ : ByteArray)) ++ decT st) ++ (⟨#[32]⟩ : ByteArray)) ++ la) ++ (⟨#[32, 114, 32]⟩ : ByteArray)) ++ decT se) ++ (⟨#[32]⟩ : ByteArray)) ++ decT wh).size ≤ 3145797 := by rw [ByteArray.size_append]; omega
      have k12 : (((((((((((((ke ++ (⟨#[32]⟩ : ByteArray)) ++ stpT ti) ++ (⟨#[32, 99, 32]⟩ : ByteArray)) ++ me) ++ (⟨#[32]⟩ : ByteArray)) ++ decT st) ++ (⟨#[32]⟩ : ByteArray)) ++ la) ++ (⟨#[32, 114, 32]⟩ : ByteArray)) ++ decT se) ++ (⟨#[32]⟩ : ByteArray)) ++ decT wh) ++ (⟨#[32]⟩ : ByteArray)).size ≤ 3145798 := by rw [ByteArray.size_append]; omega
      have k13 : ((((((((((((((ke ++ (⟨#[32]⟩ : ByteArray)) ++ stpT ti) ++ (⟨#[32, 99, 32]⟩ : ByteArray)) ++ me) ++ (⟨#[32]⟩ : ByteArray)) ++ decT st) ++ (⟨#[32]⟩ : ByteArray)) ++ la) ++ (⟨#[32, 114, 32]⟩ : ByteArray)) ++ decT se) ++ (⟨#[32]⟩ : ByteArray)) ++ decT wh) ++ (⟨#[32]⟩ : ByteArray)) ++ decT sz).size ≤ 3145813 := by rw [ByteArray.size_append]; omega
      go_enter Tryz.func39, Tryz.ntmps39
      go_wp2
      generalize hW : w.alloc (.cells #[.string ke, .int .i64 ti, .int .i64 si, .string me, .int .i64 st, .string la, .bool true, .int .i64 se, .int .i64 wh, .int .i64 sz] 45) = W at *
      clear hW
      obtain ⟨p0, p1, p2, p3, p4, p5, p6, p7, p8, p9⟩ := A1.c10
      have a0 := fun V => grw_some p0 V
      have a1 := fun V => grw_some p1 V
      have a2 := fun V => grw_some p2 V
      have a3 := fun V => grw_some p3 V
      have a4 := fun V => grw_some p4 V
      have a5 := fun V => grw_some p5 V
      have a6 := fun V => grw_some p6 V
      have a7 := fun V => grw_some p7 V
      have a8 := fun V => grw_some p8 V
      have a9 := fun V => grw_some p9 V
      clear p0 p1 p2 p3 p4 p5 p6 p7 p8 p9 A1
      refine wp_region_grow ?_ ?_ ?_
      · kernel_rfl
      · kernel_rfl
      · intro hne
        repeat (go_big_quiet_step (first
          | (go_at_call 55; exact grow_call (HS1.out _))
          | (go_at_call 56; exact grow_call (HD.out _ _))))
        refine wpQuiet_nil ?_
        rintro _ ⟨V, rfl⟩
        have HBV := hideB2 (below_then HB.out (grw_below W V))
        generalize grw W V = w3 at *
        go_wp2
        go_ret
        exact ⟨ret_str HR.out, HBV.out⟩
set_option maxRecDepth 100000 in
set_option maxHeartbeats 2000000 in
theorem sLineText_any (x : Lx) (w : World) (h1 : x.ke.size ≤ 1048576) (h2 : x.me.size ≤ 1048576) (h3 : x.la.size ≤ 1048576) :
    Calls Tryz.prog 66 #[lxV x] w fun e w' => e = .returned (.string (litB x)) ∧ Below w.heap.size w w' := by
  have HK := hideB2 (fun W => sLineOk_any x W h1 h2 h3)
  have HX := hideB2 (fun W => l9text_any x W h1 h2 h3)
  have B1 := Blk.new w (lxC x) 45
  have HB := hideB2 (below_a1 w (.cells (lxC x) 45))
  clear h1 h2 h3
  cases hq : linQ x
  · rw [litB_no hq]
    rw [hq] at HK
    clear hq
    obtain ⟨ke, ti, si, me, st, la, rv, se, wh, sz⟩ := x
    unfold lxV at *
    unfold lxC at *
    simp only at *
    go_enter Tryz.func66, Tryz.ntmps66
    go_wp2_with fail
    refine (HK.out _).mono ?_
    rintro e1 w1 ⟨rfl, hb1⟩
    have HB1 := hideB2 (below_then HB.out hb1)
    clear hb1 B1
    go_wp2
    go_ret
    exact ⟨rfl, HB1.out⟩
  · rw [litB_yes hq]
    rw [hq] at HK
    clear hq
    generalize joinS 32 (wdsX x) = R at *
    obtain ⟨ke, ti, si, me, st, la, rv, se, wh, sz⟩ := x
    unfold lxV at *
    unfold lxC at *
    simp only at *
    go_enter Tryz.func66, Tryz.ntmps66
    go_wp2_with fail
    refine (HK.out _).mono ?_
    rintro e1 w1 ⟨rfl, hb1⟩
    have B2 := B1.later hb1
    have HB1 := hideB2 (below_then HB.out hb1)
    obtain ⟨p0, p1, p2, p3, p4, p5, p6, p7, p8, p9⟩ := B2.c10
    clear hb1 B1 B2
    go_wp2_with fail
    refine (HX.out _).mono ?_
    rintro e2 w2 ⟨rfl, hb2⟩
    have HB2 := hideB2 (below_then HB1.out hb2)
    clear hb2 p0 p1 p2 p3 p4 p5 p6 p7 p8 p9
    go_wp2
    go_ret
    exact ⟨rfl, HB2.out⟩
end Go.Proofs.YtenjbgpndkodmacGreatDoor
namespace Go.Proofs.YtenjbgpndkodmacGreatDoor
set_option linter.unusedVariables false
set_option linter.unusedSimpArgs false
open Go.RowKit
theorem Buf.later {w0 w w' : World} {v : Value} {l : List UInt8} (h : Buf w0 w v l) (k : Below w.heap.size w w') : Buf w0 w' v l := by
  refine ⟨h.below.trans (k.mono h.below.size), h.own.1, ?_⟩
  rcases h.own.2 with hn | ⟨g, cap, cur, e, hb, hg, r⟩
  · exact .inl hn
  · exact .inr ⟨g, cap, cur, e, hb, by rw [k.block g (Array.getElem?_eq_some_iff.1 hg).1]; exact hg, r⟩
/-- append(out, s...), s a text. -/
theorem wp_appS {ops : Array Oper} {rest : List Oper} {o : Oper} {a : Act} {Q : Exit → Act → World → Prop} {w0 W : World} (hgd : o.guard = none) (sl x : Operand)
    (ho : o.op = .call { callee := .builtin .append, args := #[sl, x], argTypes := #[56, 9] }) (v : Value) (l : List UInt8) (hs : a.eval sl = v) (hbuf : Buf w0 W v l)
    (s : ByteArray) (hx : a.eval x = .string s) (hlen : l.length + s.size ≤ 1099511627776)
    (h : ∀ v' W', Buf w0 W' v' (l ++ s.data.toList) → Below w0.heap.size W W' → wpList Tryz.prog ops Q rest (a.put o.dst v') W') :
    wpList Tryz.prog ops Q (o :: rest) a W := by
  obtain ⟨i0, hi, hz0, hz1, hz2⟩ := info_parts Tryz.infoU8
  refine Lib.wpList_append_own_string W hgd sl x 56 9 ho w0.heap.size 5 i0 Tryz.underlying56 Tryz.underlying9 hi hz0 hz1 hz2 v l.length (l.map c8) hs hbuf.own s hx (by unfold maxLen; omega) (by omega) hbuf.below.size ?_
  intro v' W' hown hgrow _
  have hB : Below w0.heap.size W W' := ⟨hgrow.os, hgrow.tape, hgrow.output, hgrow.size, fun k hk => hgrow.block k (by have := hbuf.below.size; omega) (fun e => by have := (hbuf.own.lt k e.symm).1; omega)⟩
  refine h v' W' ⟨hbuf.below.trans hB, ?_⟩ hB
  rw [List.length_append, len_data, List.map_append]
  have e : Lib.strCells s = s.data.toList.map c8 := by
    unfold Lib.strCells
    rfl
  rw [← e]
  exact hown
end Go.Proofs.YtenjbgpndkodmacGreatDoor
namespace Go.Proofs.YtenjbgpndkodmacGreatDoor
set_option linter.unusedVariables false
set_option linter.unusedSimpArgs false
open Go.RowKit
theorem itxX_no {l : List Lx} (h : idxQ l = false) : itxX l = ⟨#[]⟩ := by unfold itxX; rw [if_neg (by rw [h]; simp)]
theorem itxX_yes {l : List Lx} (h : idxQ l = true) : itxX l = itxB l := by unfold itxX; rw [if_pos h]
theorem idx_lin {l : List Lx} (h : idxQ l = true) {k : Nat} (hk : k < l.length) : linQ (lxAt l k) = true := (idx_iff.1 h).2.1 _ (lxAt_mem hk)
theorem itx_next {l : List Lx} (h : idxQ l = true) {k : Nat} (hk : k < l.length) : itxL (l.take (k + 1)) = (itxL (l.take k) ++ (joinS 32 (wdsX (lxAt l k))).data.toList) ++ [10] := by
  rw [itxL_take hk, litB_yes (idx_lin h hk), List.append_assoc]
set_option maxRecDepth 100000 in
set_option maxHeartbeats 4000000 in
theorem sIndexText_any (v : Value) (l : List Lx) (w : World) (hv : SlX w v l) (hb : BdX l) (hl : l.length ≤ 1048576) :
    Calls Tryz.prog 19 #[v] w fun e w' => e = .returned (.string (itxX l)) ∧ Below w.heap.size w w' := by
  have HK := hideB2 (sIndexOk_any v l w hv hb hl)
  cases hq : idxQ l
  · have HR := hideB2 (itxX_no hq)
    rw [hq] at HK
    clear hq hb
    obtain ⟨a, c0, rfl⟩ := hv.form
    clear hv
    generalize itxX l = R at *
    go_enter Tryz.func19, Tryz.ntmps19
    go_wp2_with fail
    refine HK.out.mono ?_
    rintro e1 w1 ⟨rfl, hb1⟩
    have HB1 := hideB2 hb1
    clear hb1
    go_wp2
    go_ret
    exact ⟨ret_str HR.out, HB1.out⟩
  · have HR := hideB2 (itxX_yes hq)
    have HV := hideB2 hv
    have HBD := hideB2 hb
    have HNX0 := hideB2 (fun k hk => itx_next hq (k := k) hk)
    have HLN := hideB2 (fun k => itxL_len (l.take k))
    have HLX := hideB2 (fun k (hk : k < l.length) => litB_yes (idx_lin hq hk))
    rw [hq] at HK
    clear hq hb
    obtain ⟨a, c0, rfl⟩ := hv.form
    clear hv
    generalize itxX l = R at *
    generalize hn : l.length = n at *
    have HN := hideB2 hn
    clear hn
    go_enter Tryz.func19, Tryz.ntmps19
    go_wp2_with fail
    refine HK.out.mono ?_
    rintro e1 w1 ⟨rfl, hb1⟩
    have HB1 := hideB2 hb1
    clear hb1 HK
    go_wp2
    go_loopw [3, 4] (fun x i wr => ∃ k : Nat, k ≤ n ∧ i = .int .i64 k ∧ Buf w1 wr x (itxL (l.take k))) (fun _ i _ => n - (intOf i).toNat)
    case atStart => exact ⟨0, Nat.zero_le _, rfl, Buf.start w1⟩
    case round =>
      obtain ⟨k, hk, rfl, hbuf⟩ := hrel
      have hb := hbuf.below
      by_cases hlt : k < n
      · have hkl : k < l.length := by rw [HN.out]; omega
        obtain ⟨b, o, rfl, hr⟩ := HV.out.row (by omega)
        have hr1 := (hr.keep HB1.out).keep hb
        obtain ⟨p0, p1, p2, p3, p4, p5, p6, p7, p8, p9⟩ := hr1.dat k hkl
        have hsz := HBD.out k hkl
        have HX := hideB2 (fun W => l9text_any (lxAt l k) W hsz.ke hsz.me hsz.la)
        have HNX := hideB2 (HNX0.out k hlt)
        have hcl := HLN.out k
        have htk : (l.take k).length ≤ k := by rw [List.length_take]; omega
        have hjs : (joinS 32 (wdsX (lxAt l k))).size ≤ 350 := by rw [← HLX.out k hlt]; exact lit_all _
        have HLE := hideB2 (show (itxL (l.take k)).length + (joinS 32 (wdsX (lxAt l k))).size ≤ 1099511627775 by omega)
        have HBF := hideB2 hbuf
        obtain ⟨a1, c1, rfl⟩ := hbuf.form
        clear hcl hbuf hb hjs hsz hr hr1 hkl
        generalize hT2 : itxL (l.take (k + 1)) = t2 at HNX
        have HT2 := hideB2 hT2
        clear hT2
        generalize itxL (l.take k) = t at *
        generalize joinS 32 (wdsX (lxAt l k)) = d at *
        generalize lxAt l k = x at *
        obtain ⟨xke, xti, xsi, xme, xst, xla, xrv, xse, xwh, xsz⟩ := x
        unfold lxV at HX
        simp only at p0 p1 p2 p3 p4 p5 p6 p7 p8 p9 HX
        go_wp2_with fail
        go_at_call 39
        refine (HX.out _).mono ?_
        rintro e w3 ⟨rfl, hb3⟩
        have HBF1 := hideB2 (HBF.out.later hb3)
        clear hb3
        go_wp2_with (first
          | (at_builtin; refine wp_appS rfl (.tmp 14) (.tmp 19) rfl _ t rfl HBF1.out d rfl (by have := HLE.out; omega) ?_; intro v2 W2 hbuf2 hB2; have HL3 := hideB2 (show (t ++ d.data.toList).length ≤ 1099511627775 by rw [List.length_append, len_data]; have := HLE.out; omega); generalize t ++ d.data.toList = t3 at hbuf2 HL3 HNX; have HBF2 := hideB2 hbuf2; obtain ⟨a2, c2, rfl⟩ := hbuf2.form; clear hbuf2 hB2)
          | (at_builtin; refine wp_app rfl (.tmp 21) (.tmp 22) rfl _ t3 rfl HBF2.out _ 10 rfl rfl (by have := HL3.out; omega) ?_; intro v3 W3 hbuf3; have HBF3 := hideB2 hbuf3; clear hbuf3))
        exact ⟨⟨k + 1, by omega, by go_num, by rw [HT2.out, HNX.out]; exact HBF3.out⟩, by simp [intOf]; omega⟩
      · obtain rfl : k = n := by omega
        rw [List.take_of_length_le (by rw [HN.out]; exact Nat.le_refl _)] at hbuf
        have hcv := hbuf.text
        have HBB := hideB2 (below_then HB1.out hbuf.below)
        have HF := hideB2 (show R = ⟨(itxL l).toArray⟩ by rw [HR.out]; rfl)
        have hlen : (itxL l).length ≤ 351 * l.length := itxL_len l
        obtain ⟨a1, c1, rfl⟩ := hbuf.form
        clear hbuf hb
        rw [← HF.out] at hcv
        go_wp2
        go_ret
        exact ⟨rfl, HBB.out⟩
end Go.Proofs.YtenjbgpndkodmacGreatDoor
namespace Go.Proofs.YtenjbgpndkodmacGreatDoor
set_option linter.unusedVariables false
set_option linter.unusedSimpArgs false
open Go.RowKit
/-- A builder in block b that holds the bytes l, and all that lay in w0 is as it was. -/
def BdW (w0 w : World) (b : Nat) (l : List UInt8) : Prop := Lib.IsBuilder 60 5 w0.heap.size b (Lib.byteCells l) w ∧ Below w0.heap.size w0 w
theorem BdW.start (w : World) : BdW w (w.alloc (.cells #[.pointer none, .slice none 0 0] 60)) w.heap.size [] :=
  ⟨Lib.fresh_isBuilder _ _ w, (Below.refl _ _).alloc (Nat.le_refl _) _⟩
theorem builderAt_later {T e : TypeId} {B b : Nat} {p : Value} {bs : List Value} {w w' : World} (h : Lib.BuilderAt T e B b p bs w) (k : Below w.heap.size w w') : Lib.BuilderAt T e B b p bs w' := by
  have hlt := h.lt
  obtain ⟨hB, v, hb, hown, hne⟩ := h
  refine ⟨hB, v, by rw [k.block b hlt]; exact hb, ⟨hown.1, ?_⟩, hne⟩
  rcases hown.2 with hn | ⟨g, cap, cur, e, hb2, hg, r⟩
  · exact .inl hn
  · exact .inr ⟨g, cap, cur, e, hb2, by rw [k.block g (Array.getElem?_eq_some_iff.1 hg).1]; exact hg, r⟩
theorem BdW.later {w0 w w' : World} {b : Nat} {l : List UInt8} (h : BdW w0 w b l) (k : Below w.heap.size w w') : BdW w0 w' b l := by
  refine ⟨?_, h.2.trans (k.mono h.2.size)⟩
  rcases h.1 with h1 | h1
  · exact .inl (builderAt_later h1 k)
  · exact .inr (builderAt_later h1 k)
theorem WriteS_any (w0 w : World) (b : Nat) (l : List UInt8) (s : ByteArray) (h : BdW w0 w b l) (hl : l.length + s.size ≤ 1099511627776) :
    Calls Tryz.prog 40 #[.pointer (some ⟨b, 0, none⟩), .string s] w fun e w' => e = .returned (.tuple #[.int .i64 s.size, .nilIface]) ∧ BdW w0 w' b (l ++ s.data.toList) := by
  have L : Lays.n166 Tryz.prog Tryz.lays156_ren := { Tryz.lays156 with }
  refine (Any.Builder_WriteString L Tryz.extraS w0.heap.size b (Lib.byteCells l) s w h.1 (by rw [Lib.byteCells_length]; omega) h.2.size).mono ?_
  rintro e w' ⟨rfl, h1, h2⟩
  refine ⟨rfl, .inr ?_, h.2.trans h2⟩
  have e : Lib.byteCells (l ++ s.data.toList) = Lib.byteCells l ++ Lib.strCells s := by unfold Lib.byteCells Lib.strCells; rw [List.map_append]
  rw [e]
  exact h1
theorem StringS_any (w0 w : World) (b : Nat) (l : List UInt8) (h : BdW w0 w b l) :
    Calls Tryz.prog 42 #[.pointer (some ⟨b, 0, none⟩)] w fun e w' => e = .returned (.string ⟨l.toArray⟩) ∧ Below w0.heap.size w0 w' := by
  have L : Lays.n169 Tryz.prog Tryz.lays156_ren := { Tryz.lays156 with }
  refine (Any.Builder_String_any L Tryz.extraS w0.heap.size b l w h.1 h.2.size).mono ?_
  rintro e w' ⟨rfl, h2⟩
  exact ⟨rfl, h.2.trans h2⟩
set_option maxRecDepth 100000 in
set_option maxHeartbeats 4000000 in
theorem IndexText_any (v : Value) (l : List Lx) (w : World) (hv : SlX w v l) (hc : CapX v) (hb : BdX l) (hl : l.length ≤ 1048576) (htab : Tab10 w) (hM : MonTab w) :
    Calls Tryz.prog 20 #[v] w fun e w' => e = .returned (.string (itxX l)) ∧ Below w.heap.size w w' := by
  have HK := hideB2 (IndexOk_any v l w hv hc hb hl htab)
  cases hq : idxQ l
  · have HR := hideB2 (itxX_no hq)
    rw [hq] at HK
    clear hq hb
    obtain ⟨a, c0, rfl⟩ := hv.form
    clear hv
    generalize itxX l = R at *
    go_enter Tryz.func20, Tryz.ntmps20
    go_wp2_with fail
    refine HK.out.mono ?_
    rintro e1 w1 ⟨rfl, hb1⟩
    have HB1 := hideB2 hb1
    clear hb1
    go_wp2
    go_ret
    exact ⟨ret_str HR.out, HB1.out⟩
  · have HR := hideB2 (itxX_yes hq)
    have HV := hideB2 hv
    have HBD := hideB2 hb
    have HT := hideB2 htab
    have HMT := hideB2 hM
    have HNX0 := hideB2 (fun k hk => itxL_take (l := l) (k := k) hk)
    have HLN := hideB2 (fun k => itxL_len (l.take k))
    rw [hq] at HK
    clear hq hb htab hM
    obtain ⟨a, c0, rfl⟩ := hv.form
    clear hv hc
    generalize itxX l = R at *
    generalize hn : l.length = n at *
    have HN := hideB2 hn
    clear hn
    go_enter Tryz.func20, Tryz.ntmps20
    go_wp2_with fail
    refine HK.out.mono ?_
    rintro e1 w1 ⟨rfl, hb1⟩
    have HB1 := hideB2 hb1
    clear hb1 HK
    have HST := hideB2 (BdW.start w1)
    go_wp2
    generalize w1.alloc (.cells #[.pointer none, .slice none 0 0] 60) = W0 at *
    generalize hB : w1.heap.size = B at *
    have HBB := hideB2 hB
    clear hB
    go_loopw [11] (fun i wr => ∃ k : Nat, k ≤ n ∧ i = .int .i64 k ∧ BdW w1 wr B (itxL (l.take k))) (fun i _ => n - (intOf i).toNat)
    case atStart => exact ⟨0, Nat.zero_le _, rfl, HST.out⟩
    case round =>
      obtain ⟨k, hk, rfl, hbd⟩ := hrel
      have hb := hbd.2
      rw [HBB.out] at hb
      by_cases hlt : k < n
      · have hkl : k < l.length := by rw [HN.out]; omega
        obtain ⟨b, o, rfl, hr⟩ := HV.out.row (by omega)
        have hr1 := (hr.keep HB1.out).later hbd.2 (by have := hr.lt; have := HB1.out.size; omega)
        obtain ⟨p0, p1, p2, p3, p4, p5, p6, p7, p8, p9⟩ := hr1.dat k hkl
        have hsz := HBD.out k hkl
        have hbw : Below w.heap.size w wr := below_then HB1.out hbd.2
        have HX := hideB2 (fun W (h1 : Tab10 W) (h2 : MonTab W) => LineText_any (lxAt l k) W hsz.ke hsz.me hsz.la h1 h2)
        have HNX := hideB2 (HNX0.out k hlt)
        have hcl := HLN.out k
        have htk : (l.take k).length ≤ k := by rw [List.length_take]; omega
        have hjs : (litB (lxAt l k)).size ≤ 350 := lit_all _
        have HLE := hideB2 (show (itxL (l.take k)).length + (litB (lxAt l k)).size ≤ 1099511627775 by omega)
        have HBF := hideB2 hbd
        have HBW := hideB2 hbw
        clear hcl hbd hb hjs hsz hr hr1 hkl hbw
        generalize hT2 : itxL (l.take (k + 1)) = t2 at HNX
        have HT2 := hideB2 hT2
        clear hT2
        generalize itxL (l.take k) = t at *
        generalize litB (lxAt l k) = d at *
        generalize lxAt l k = x at *
        obtain ⟨ke, ti, si, me, st, la, rv, se, wh, sz⟩ := x
        unfold lxV at HX
        simp only at p0 p1 p2 p3 p4 p5 p6 p7 p8 p9 HX
        have B1 := Blk.new wr #[.string ke, .int .i64 ti, .int .i64 si, .string me, .int .i64 st, .string la, .bool rv, .int .i64 se, .int .i64 wh, .int .i64 sz] 45
        have HB2 := hideB2 (below_a1 wr (.cells #[.string ke, .int .i64 ti, .int .i64 si, .string me, .int .i64 st, .string la, .bool rv, .int .i64 se, .int .i64 wh, .int .i64 sz] 45))
        go_wp2_with fail
        generalize wr.alloc (.cells #[.string ke, .int .i64 ti, .int .i64 si, .string me, .int .i64 st, .string la, .bool rv, .int .i64 se, .int .i64 wh, .int .i64 sz] 45) = W at *
        clear p0 p1 p2 p3 p4 p5 p6 p7 p8 p9
        obtain ⟨q0, q1, q2, q3, q4, q5, q6, q7, q8, q9⟩ := B1.c10
        have HBF1 := hideB2 (HBF.out.later HB2.out)
        have HBW1 := hideB2 (below_then HBW.out HB2.out)
        clear B1
        go_wp2_with (first
          | (go_at_call 41; refine (HX.out _ (tab_later HT.out HBW1.out) (HMT.out.below HBW1.out)).mono ?_; rintro e w3 ⟨rfl, hb3⟩; have HBF2 := hideB2 (HBF1.out.later hb3); clear hb3)
          | (go_at_call 40; refine (WriteS_any _ _ _ _ ⟨#[10]⟩ HBF3.out (by have := HL3.out; show _ + 1 ≤ _; omega)).mono ?_; rintro e w5 ⟨rfl, hbd5⟩; have HBF4 := hideB2 hbd5; clear hbd5)
          | (go_at_call 40; refine (WriteS_any _ _ _ _ d HBF2.out (by have := HLE.out; omega)).mono ?_; rintro e w4 ⟨rfl, hbd4⟩; have HL3 := hideB2 (show (t ++ d.data.toList).length ≤ 1099511627775 by rw [List.length_append, len_data]; have := HLE.out; omega); have HBF3 := hideB2 hbd4; clear hbd4))
        exact ⟨⟨k + 1, by omega, by go_num, by rw [HT2.out, HNX.out, ← List.append_assoc]; exact HBF4.out⟩, by simp [intOf]; omega⟩
      · obtain rfl : k = n := by omega
        rw [List.take_of_length_le (by rw [HN.out]; exact Nat.le_refl _)] at hbd
        have HBF := hideB2 hbd
        clear hb hbd
        have HF := hideB2 (show R = ⟨(itxL l).toArray⟩ by rw [HR.out]; rfl)
        have HS := hideB2 (StringS_any _ _ _ _ HBF.out)
        rw [← HF.out] at HS
        go_wp2_with (go_at_call 42; refine HS.out.mono ?_; rintro e w5 ⟨rfl, hb5⟩; have HB5 := hideB2 (below_then HB1.out hb5); clear hb5)
        go_ret
        exact ⟨rfl, HB5.out⟩
end Go.Proofs.YtenjbgpndkodmacGreatDoor
namespace Go.Proofs.YtenjbgpndkodmacGreatDoor
set_option linter.unusedVariables false
set_option linter.unusedSimpArgs false
open Go.ChangeShapes Go.WideShapes Go.ChangeAt Go.RowKit

/-- A block's cells, laid anew. -/
def laidRow (cs : Array Value) : Obj → Obj
  | .cells _ t frozen => .cells cs t frozen
  | o => o
theorem laid_mem {P : Program} {w : World} : ∀ {l : List (String × DataW Unit)} {ps : List MemPlace}, DataW.LaidVars P w l ps → ∀ (n : String) (d : DataW Unit), (n, d) ∈ l →
    ∃ g t cs fuel p, P.globalNamed n = some g ∧ (P.globals[g]?).map (·.type) = some t ∧ w.var? P n = some cs ∧ DataW.trod (fun _ => ()) P w 0 (fun _ => true) false fuel t cs.toList = some (d, p)
  | [], _, _, n, d, hm => by simp at hm
  | (n0, d0) :: r, ps, h, n, d, hm => by
    obtain ⟨g, t, cs, fuel, p, q, h1, h2, h3, h4, h5, _⟩ := h
    rcases List.mem_cons.1 hm with e | e
    · cases e
      exact ⟨g, t, cs, fuel, p, h1, h2, h3, h4⟩
    · exact laid_mem h5 n d e
end Go.Proofs.YtenjbgpndkodmacGreatDoor
namespace Go.Proofs.YtenjbgpndkodmacGreatDoor
set_option linter.unusedVariables false
set_option linter.unusedSimpArgs false
open Go.ChangeShapes Go.WideShapes Go.ChangeAt Go.RowKit
theorem dectab_of_laid {W : World} {l : List (String × DataW Unit)} (hm : ("internal/strconv.uint64pow10", Rows.laid_internal_strconv_uint64pow10) ∈ l) (h : laidMet Tryz.prog l W) : Tab10 W := by
  obtain ⟨ps, hl, _⟩ := h
  obtain ⟨g, t, cs, fuel, p, h1, h2, h3, h4⟩ := laid_mem hl _ _ hm
  have hg : Tryz.prog.globalNamed "internal/strconv.uint64pow10" = some 2 := by kernel_rfl
  have ht : (Tryz.prog.globals[2]?).map (·.type) = some 147 := by kernel_rfl
  obtain rfl := Option.some.inj (hg.symm.trans h1)
  obtain rfl := Option.some.inj (ht.symm.trans h2)
  have hc := Lib.cells_of_tab (k := .u64) (zs := Lib.pow10Tab) Tryz.underlying147 Tryz.underlying138 (by kernel_rfl) (by kernel_rfl) h4
  unfold Tab10 Lib.TabIs
  rw [h3, ← hc]
end Go.Proofs.YtenjbgpndkodmacGreatDoor
namespace Go.Proofs.YtenjbgpndkodmacGreatDoor
set_option linter.unusedVariables false
set_option linter.unusedSimpArgs false
open Go.ChangeShapes Go.WideShapes Go.ChangeAt Go.RowKit

/-- A table of texts as a row lists it, and what its cells hold. -/
def stabData {H : Type} (zs : List (List UInt8)) : DataW H := .agg (zs.map fun z => .lit (.string z))
theorem cells_of_stab {H : Type} {enc : TypeId × Value → H} {P : Program} {w : World} {base : Nat} {sp : Nat → Bool} {held : Bool} {fuel : Nat} {t e : TypeId} {n : Nat} {cs : List Value} {zs : List (List UInt8)} {p : List MemPlace}
    (ht : P.underlying t = some (.array n e)) (he : P.underlying e = some .string) (hce : P.cellsOf e = 1) (hct : P.cellsOf t = n)
    (h : DataW.trod enc P w base sp held fuel t cs = some (stabData zs, p)) : cs = zs.map fun z => Value.string ⟨z.toArray⟩ := by
  cases fuel with
  | zero => simp [DataW.trod] at h
  | succ fuel =>
    simp only [DataW.trod, ht, hce, hct, Nat.mul_one] at h
    split at h
    · rename_i hl
      obtain ⟨xs, hm, hx⟩ := Option.map_eq_some_iff.1 h
      have hxs : xs.map (·.1) = zs.map fun z => (DataW.lit (.string z) : DataW H) := by
        have := congrArg Prod.fst hx
        simpa [stabData] using this
      have hxl : xs.length = n := by simpa using Lib.mapM_length hm
      have hzl : zs.length = n := by
        have := congrArg List.length hxs
        simp at this
        omega
      apply List.ext_getElem?
      intro i
      by_cases hi : i < n
      · obtain ⟨b, hb, hf⟩ := Lib.mapM_at hm i i (by simp [hi])
        obtain ⟨z, hc, rfl, _⟩ := DataW.trod_string he hf
        have h1 : cs[i]? = some (.string z) := by
          have := congrArg (·[0]?) hc
          simpa [List.getElem?_take, List.getElem?_drop] using this
        have h2 : (xs.map (·.1))[i]? = some (DataW.lit (.string z.data.toList) : DataW H) := by simp [hb]
        rw [hxs] at h2
        simp only [List.getElem?_map, Option.map_eq_some_iff, DataW.lit.injEq, Lit.string.injEq] at h2
        obtain ⟨z', hz', rfl⟩ := h2
        simp [h1, hz']
      · rw [List.getElem?_eq_none (by omega), List.getElem?_eq_none (by simp; omega)]
    · cases h
theorem trodVars_one' {H : Type} {enc : TypeId × Value → H} {P : Program} {w : World} {sp : Nat → Bool} {n : String} : ∀ {gs : List (DataW H)} {ps : List MemPlace}, DataW.TrodVars enc P w sp [n] gs ps → ∃ a, gs = [a]
  | [a], _, _ => ⟨a, rfl⟩
  | [], _, h => h.elim
  | _ :: _ :: _, _, h => by obtain ⟨_, _, _, _, _, _, _, _, _, _, h, _⟩ := h; exact h.elim
theorem trodVars_three' {H : Type} {enc : TypeId × Value → H} {P : Program} {w : World} {sp : Nat → Bool} {n0 n1 n2 : String} : ∀ {gs : List (DataW H)} {ps : List MemPlace}, DataW.TrodVars enc P w sp [n0, n1, n2] gs ps → ∃ a b c, gs = [a, b, c]
  | [a, b, c], _, _ => ⟨a, b, c, rfl⟩
  | [], _, h => h.elim
  | [_], _, h => by obtain ⟨_, _, _, _, _, _, _, _, _, _, h, _⟩ := h; exact h.elim
  | [_, _], _, h => by
    obtain ⟨_, _, _, _, _, _, _, _, _, _, h, _⟩ := h
    obtain ⟨_, _, _, _, _, _, _, _, _, _, h, _⟩ := h
    exact h.elim
  | _ :: _ :: _ :: _ :: _, _, h => by
    obtain ⟨_, _, _, _, _, _, _, _, _, _, h, _⟩ := h
    obtain ⟨_, _, _, _, _, _, _, _, _, _, h, _⟩ := h
    obtain ⟨_, _, _, _, _, _, _, _, _, _, h, _⟩ := h
    exact h.elim

theorem array6 {α : Type} {cs : Array α} (h : cs.size = 6) : ∃ c0 c1 c2 c3 c4 c5, cs = #[c0, c1, c2, c3, c4, c5] := by
  obtain ⟨l⟩ := cs
  match l, h with
  | [c0, c1, c2, c3, c4, c5], _ => exact ⟨c0, c1, c2, c3, c4, c5, rfl⟩
/-- A struct of six ints, by value, opened. -/
theorem open_civ {H : Type} {enc : TypeId × Value → H} {P : Program} {w : World} {base : Nat} {spare : Nat → Bool} {held : Bool} {r : Reach} {b0 : Nat} {t : TypeId} {f0 f1 f2 f3 f4 f5 : Field} {v : Value} {d : DataW H} {p : List MemPlace}
    (hs : P.underlying t = some (.struct #[f0, f1, f2, f3, f4, f5])) (hone : Go.Deep.oneCellFields P #[f0, f1, f2, f3, f4, f5] = true) (hC : P.cellsOf t = 6)
    (e0 : P.underlying f0.type = some (.int .i64)) (e1 : P.underlying f1.type = some (.int .i64)) (e2 : P.underlying f2.type = some (.int .i64)) (e3 : P.underlying f3.type = some (.int .i64)) (e4 : P.underlying f4.type = some (.int .i64)) (e5 : P.underlying f5.type = some (.int .i64))
    (hv : Value.okWide P w r b0 t v) (h : DataW.Trod enc P w base spare held t v d p) :
    ∃ a b c d e f : Int, v = civ a b c d e f ∧ (Lit.int .i64 a).wf = true ∧ (Lit.int .i64 b).wf = true ∧ (Lit.int .i64 c).wf = true ∧ (Lit.int .i64 d).wf = true ∧ (Lit.int .i64 e).wf = true ∧ (Lit.int .i64 f).wf = true := by
  obtain ⟨cs, rfl, hsz⟩ := okWide_struct hs hv
  obtain ⟨c0, c1, c2, c3, c4, c5, rfl⟩ := array6 (hsz.trans hC)
  obtain ⟨fuel, hf⟩ := h
  obtain ⟨xs, n, _, _, hl, hlen, hf⟩ := DataW.trod_struct hs hf
  obtain ⟨o0, k0⟩ := Go.Deep.hone_of hone 0 f0 rfl
  obtain ⟨o1, k1⟩ := Go.Deep.hone_of hone 1 f1 rfl
  obtain ⟨o2, k2⟩ := Go.Deep.hone_of hone 2 f2 rfl
  obtain ⟨o3, k3⟩ := Go.Deep.hone_of hone 3 f3 rfl
  obtain ⟨o4, k4⟩ := Go.Deep.hone_of hone 4 f4 rfl
  obtain ⟨o5, k5⟩ := Go.Deep.hone_of hone 5 f5 rfl
  have one : ∀ {ty : TypeId} {c : Value} {x : Option (DataW H × List MemPlace)}, P.underlying ty = some (.int .i64) → x.isSome = true → DataW.trod enc P w base spare held n ty [c] = x → ∃ z : Int, c = .int .i64 z ∧ (Lit.int .i64 z).wf = true := by
    intro ty c x hu hx ht
    obtain ⟨y, hy⟩ := Option.isSome_iff_exists.1 hx
    rw [hy] at ht
    obtain ⟨z, hz, _, hw⟩ := DataW.trod_int hu ht
    exact ⟨z, by simpa using hz, hw⟩
  have g : ∀ j, j < 6 → (xs[j]?).isSome = true := by
    intro j hj
    have : xs.length = 6 := by simpa using hlen
    rw [List.getElem?_eq_getElem (by omega)]; rfl
  obtain ⟨a, rfl, wa⟩ := one e0 (g 0 (by omega)) (by simpa [Value.cells, o0, k0] using hf 0 f0 rfl)
  obtain ⟨b, rfl, wb⟩ := one e1 (g 1 (by omega)) (by simpa [Value.cells, o1, k1] using hf 1 f1 rfl)
  obtain ⟨c, rfl, wc⟩ := one e2 (g 2 (by omega)) (by simpa [Value.cells, o2, k2] using hf 2 f2 rfl)
  obtain ⟨d', rfl, wd⟩ := one e3 (g 3 (by omega)) (by simpa [Value.cells, o3, k3] using hf 3 f3 rfl)
  obtain ⟨e, rfl, we⟩ := one e4 (g 4 (by omega)) (by simpa [Value.cells, o4, k4] using hf 4 f4 rfl)
  obtain ⟨f, rfl, wf⟩ := one e5 (g 5 (by omega)) (by simpa [Value.cells, o5, k5] using hf 5 f5 rfl)
  exact ⟨a, b, c, d', e, f, rfl, wa, wb, wc, wd, we, wf⟩
theorem montab_of_laid {W : World} {l : List (String × DataW Unit)} (hm : ("loop.example/g00651/impl.monthLengths", Rows.laid_loop_example_g00651_impl_monthLengths) ∈ l) (h : laidMet Tryz.prog l W) : MonTab W := by
  obtain ⟨ps, hl, _⟩ := h
  obtain ⟨g, t, cs, fuel, p, h1, h2, h3, h4⟩ := laid_mem hl _ _ hm
  have hg : Tryz.prog.globalNamed "loop.example/g00651/impl.monthLengths" = some 1 := by kernel_rfl
  have ht : (Tryz.prog.globals[1]?).map (·.type) = some 119 := by kernel_rfl
  obtain rfl := Option.some.inj (hg.symm.trans h1)
  obtain rfl := Option.some.inj (ht.symm.trans h2)
  have hc := Lib.cells_of_tab (k := .i64) (zs := [0, 31, 28, 31, 30, 31, 30, 31, 31, 30, 31, 30, 31]) Tryz.underlying119 Tryz.underlying3 (by kernel_rfl) (by kernel_rfl) h4
  have hT : Lib.TabIs Tryz.prog W "loop.example/g00651/impl.monthLengths" .i64 [0, 31, 28, 31, 30, 31, 30, 31, 31, 30, 31, 30, 31] := by
    unfold Lib.TabIs
    rw [h3, ← hc]
  intro k hk
  exact hT.cell hg k hk
end Go.Proofs.YtenjbgpndkodmacGreatDoor
