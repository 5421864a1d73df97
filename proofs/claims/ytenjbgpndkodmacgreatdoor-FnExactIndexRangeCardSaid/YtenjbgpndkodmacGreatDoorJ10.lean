/-
  Chapter 9 on lists: the range of a key, the nearest line, an index's text and what is read of one. No Go in sight. · Chapter 9: the range of a key; both sides. · What a card of a door seat of chapter 1 needs: the listed tables. · What a card of a door seat of chapter 6 needs: the table of the powers of ten. · What every frame of a door seat of chapter 2 shares: the listed tables, a day and hour that comes in.
-/
import Derived.Test.YtenjbgpndkodmacGreatDoorJ7
import Derived.Test.YtenjbgpndkodmacGreatDoorJ9
import Derived.Test.YtenjbgpndkodmacGreatDoorJ0
import Derived.Lib.LaidTab
import Derived.LaidLaws
import Derived.LaidHandle
import Derived.ChangeVars
import Derived.OpenVars
import Derived.SevenTiedAt
import Derived.Test.YtenjbgpndkodmacGreatDoorJ3
namespace Go.Proofs.YtenjbgpndkodmacGreatDoor
set_option linter.unusedVariables false
set_option linter.unusedSimpArgs false
open Go.RowKit
/-! How many stand ahead of the first that is not so. -/
def cutP (p : Lx → Bool) : List Lx → Nat
  | [] => 0
  | a :: l => if p a = true then cutP p l + 1 else 0
theorem cutP_le (p : Lx → Bool) : ∀ (l : List Lx), cutP p l ≤ l.length
  | [] => Nat.le_refl _
  | a :: l => by unfold cutP; have := cutP_le p l; split <;> simp only [List.length_cons] <;> omega
theorem cutP_lt (p : Lx → Bool) : ∀ (l : List Lx) (k : Nat), k < cutP p l → p (lxAt l k) = true
  | [], k, h => by simp [cutP] at h
  | a :: l, k, h => by
    unfold cutP at h
    split at h
    · rename_i e
      cases k with
      | zero => exact e
      | succ k => exact cutP_lt p l k (by omega)
    · omega
theorem cutP_at (p : Lx → Bool) : ∀ (l : List Lx), cutP p l < l.length → p (lxAt l (cutP p l)) = false
  | [], h => by simp at h
  | a :: l, h => by
    unfold cutP at *
    split at h
    · rename_i e
      rw [if_pos e]
      simp only [List.length_cons] at h
      exact cutP_at p l (by omega)
    · rename_i e
      rw [if_neg e]
      show p a = false
      simpa using e
theorem cutP_iff {p : Lx → Bool} {l : List Lx} (hm : ∀ i j, i < j → j < l.length → p (lxAt l j) = true → p (lxAt l i) = true) {k : Nat} (hk : k < l.length) : p (lxAt l k) = true ↔ k < cutP p l := by
  constructor
  · intro h
    rcases Nat.lt_or_ge k (cutP p l) with h1 | h1
    · exact h1
    · have hc : cutP p l < l.length := by omega
      have h2 := cutP_at p l hc
      rcases Nat.eq_or_lt_of_le h1 with h3 | h3
      · rw [h3, h] at h2; cases h2
      · rw [hm _ _ h3 hk h] at h2; cases h2
  · exact cutP_lt p l k
def loP (key : ByteArray) (y : Lx) : Bool := Op.bytesLess y.ke.toList key.toList
def hiP (key : ByteArray) (y : Lx) : Bool := !(Op.bytesLess key.toList y.ke.toList)
def loX (l : List Lx) (key : ByteArray) : Nat := cutP (loP key) l
def hiX (l : List Lx) (key : ByteArray) : Nat := cutP (hiP key) l
theorem ahd_le {a b : Lx} (h : Ahd a b) : Op.bytesLess b.ke.toList a.ke.toList = false := by
  rcases h with h | ⟨h, _⟩
  · exact bl_asym h
  · rw [h]; exact bl_irr _
theorem bl_le_trans {x y z : List UInt8} (h1 : Op.bytesLess y x = false) (h2 : Op.bytesLess y z = true) : Op.bytesLess x z = true := by
  cases h : Op.bytesLess x y
  · rw [bl_tri h h1]; exact h2
  · exact bl_trans h h2
theorem loP_mono {l : List Lx} (h : Srt l) (key : ByteArray) : ∀ i j, i < j → j < l.length → loP key (lxAt l j) = true → loP key (lxAt l i) = true := by
  intro i j hij hj hp
  exact bl_le_trans (ahd_le (h.at hij hj)) hp
theorem hiP_mono {l : List Lx} (h : Srt l) (key : ByteArray) : ∀ i j, i < j → j < l.length → hiP key (lxAt l j) = true → hiP key (lxAt l i) = true := by
  intro i j hij hj hp
  unfold hiP at *
  cases e : Op.bytesLess key.toList (lxAt l i).ke.toList
  · rfl
  · have h1 := ahd_le (h.at hij hj)
    have h2 : Op.bytesLess key.toList (lxAt l j).ke.toList = true := by
      cases h3 : Op.bytesLess (lxAt l i).ke.toList (lxAt l j).ke.toList
      · rw [← bl_tri h3 h1]; exact e
      · exact bl_trans e h3
    rw [h2] at hp; cases hp
theorem loX_iff {l : List Lx} (h : Srt l) (key : ByteArray) {k : Nat} (hk : k < l.length) : loP key (lxAt l k) = true ↔ k < loX l key := cutP_iff (loP_mono h key) hk
theorem hiX_iff {l : List Lx} (h : Srt l) (key : ByteArray) {k : Nat} (hk : k < l.length) : hiP key (lxAt l k) = true ↔ k < hiX l key := cutP_iff (hiP_mono h key) hk
theorem kes_lo (y : Lx) (key : ByteArray) : decide (kes y.ke key ≤ -1) = loP key y := by
  unfold loP
  rcases kes_cases y.ke key with ⟨e, h⟩ | ⟨e, h⟩ | ⟨e, h⟩
  · rw [e, h]; rfl
  · rw [e, bl_asym h]; rfl
  · rw [e, h, bl_irr]; rfl
theorem kes_hi (y : Lx) (key : ByteArray) : decide (kes y.ke key ≤ 0) = hiP key y := by
  unfold hiP
  rcases kes_cases y.ke key with ⟨e, h⟩ | ⟨e, h⟩ | ⟨e, h⟩
  · rw [e, bl_asym h]; rfl
  · rw [e, h]; rfl
  · rw [e, h, bl_irr]; rfl
theorem key_range {l : List Lx} (h : Srt l) {key : ByteArray} {k : Nat} (hk : k < l.length) : (lxAt l k).ke = key ↔ loX l key ≤ k ∧ k < hiX l key := by
  have h1 := loX_iff h key hk
  have h2 := hiX_iff h key hk
  constructor
  · intro e
    have a1 : loP key (lxAt l k) = false := by unfold loP; rw [e, bl_irr]
    have a2 : hiP key (lxAt l k) = true := by unfold hiP; rw [e, bl_irr]; rfl
    refine ⟨?_, h2.1 a2⟩
    rcases Nat.lt_or_ge k (loX l key) with h3 | h3
    · rw [h1.2 h3] at a1; cases a1
    · exact h3
  · rintro ⟨g1, g2⟩
    have a2 := h2.2 g2
    have a1 : loP key (lxAt l k) = false := by
      cases e : loP key (lxAt l k)
      · rfl
      · have := h1.1 e; omega
    unfold hiP at a2
    unfold loP at a1
    rw [← eqB_iff]
    unfold eqB
    rw [bl_tri a1 (by simpa using a2)]
    simp
theorem lo_hi {l : List Lx} (h : Srt l) (key : ByteArray) : loX l key ≤ hiX l key := by
  rcases Nat.lt_or_ge (hiX l key) (loX l key) with h1 | h1
  · have hc := cutP_le (loP key) l
    have hk : hiX l key < l.length := Nat.lt_of_lt_of_le h1 hc
    have a1 := (loX_iff h key hk).2 h1
    have a2 : hiP key (lxAt l (hiX l key)) = true := by unfold hiP; rw [bl_asym a1]; rfl
    have := (hiX_iff h key hk).1 a2
    omega
  · exact h1
/-! The nearest line. -/
def farI (a b : Int) : Int := if a < b then b - a else a - b
def matX (key : ByteArray) (si : Int) (me : ByteArray) (y : Lx) : Bool := eqB y.ke key && (decide (y.si = si) && eqB y.me me)
def betX (l : List Lx) (t : Int) (y : Lx) (b : Int) : Bool := decide (b < 0) || (decide (farI y.ti t < farI (lxAt l b.toNat).ti t) || decide (y.ti = (lxAt l b.toNat).ti))
def clsF (l : List Lx) (key : ByteArray) (si : Int) (me : ByteArray) (t : Int) : Nat → Int
  | 0 => -1
  | k + 1 => if (matX key si me (lxAt l k) && betX l t (lxAt l k) (clsF l key si me t k)) = true then (k : Int) else clsF l key si me t k
def clsX (l : List Lx) (key : ByteArray) (si : Int) (me : ByteArray) (t : Int) : Int := if idxQ l = true ∧ timeB t = true then clsF l key si me t l.length else -1
theorem clsF_bd (l : List Lx) (key : ByteArray) (si : Int) (me : ByteArray) (t : Int) (k : Nat) : -1 ≤ clsF l key si me t k ∧ clsF l key si me t k < k := by
  induction k with
  | zero => exact ⟨by unfold clsF; omega, by unfold clsF; omega⟩
  | succ k ih =>
    unfold clsF
    split
    · omega
    · omega
theorem clsF_lo {l : List Lx} (h : Srt l) (key : ByteArray) (si : Int) (me : ByteArray) (t : Int) {k : Nat} (hk : k ≤ loX l key) : clsF l key si me t k = -1 := by
  have hc := cutP_le (loP key) l
  induction k with
  | zero => rfl
  | succ k ih =>
    unfold clsF
    have hkl : k < l.length := by unfold loX at hk; omega
    have : matX key si me (lxAt l k) = false := by
      unfold matX
      cases e : eqB (lxAt l k).ke key
      · rfl
      · have := ((key_range h hkl).1 (eqB_iff.1 e)).1; omega
    rw [this, Bool.false_and, if_neg (by simp)]
    exact ih (by omega)
theorem clsF_succ (l : List Lx) (key : ByteArray) (si : Int) (me : ByteArray) (t : Int) (k : Nat) : clsF l key si me t (k + 1) = if (matX key si me (lxAt l k) && betX l t (lxAt l k) (clsF l key si me t k)) = true then (k : Int) else clsF l key si me t k := rfl
theorem clsF_hi {l : List Lx} (h : Srt l) (key : ByteArray) (si : Int) (me : ByteArray) (t : Int) : ∀ d k, k = hiX l key + d → k ≤ l.length → clsF l key si me t k = clsF l key si me t (hiX l key) := by
  intro d
  induction d with
  | zero => intro k e _; rw [e]; rfl
  | succ d ih =>
    intro k e hk
    obtain ⟨j, rfl⟩ : ∃ j, k = j + 1 := ⟨k - 1, by omega⟩
    rw [clsF_succ]
    have hkl : j < l.length := by omega
    have : matX key si me (lxAt l j) = false := by
      unfold matX
      cases e : eqB (lxAt l j).ke key
      · rfl
      · have := ((key_range h hkl).1 (eqB_iff.1 e)).2; omega
    rw [this, Bool.false_and, if_neg (by simp)]
    exact ih j (by omega) (by omega)
theorem clsF_end {l : List Lx} (h : Srt l) (key : ByteArray) (si : Int) (me : ByteArray) (t : Int) : clsF l key si me t (hiX l key) = clsF l key si me t l.length := by
  have hc : hiX l key ≤ l.length := cutP_le _ l
  exact (clsF_hi h key si me t (l.length - hiX l key) l.length (by omega) (Nat.le_refl _)).symm
/-! An index's text. -/
def itxL (l : List Lx) : List UInt8 := l.flatMap (fun x => (litB x).data.toList ++ [10])
def itxB (l : List Lx) : ByteArray := ⟨(itxL l).toArray⟩
def itxX (l : List Lx) : ByteArray := if idxQ l = true then itxB l else ⟨#[]⟩
theorem itxL_take {l : List Lx} {k : Nat} (h : k < l.length) : itxL (l.take (k + 1)) = itxL (l.take k) ++ ((litB (lxAt l k)).data.toList ++ [10]) := by
  rw [List.take_succ_eq_append_getElem h, lxAt_get h]
  unfold itxL
  rw [List.flatMap_append]
  simp
theorem itxL_cons (x : Lx) (l : List Lx) : itxL (x :: l) = ((litB x).data.toList ++ [10]) ++ itxL l := by unfold itxL; rw [List.flatMap_cons]
theorem dat_mk (l : List UInt8) : (⟨l.toArray⟩ : ByteArray).data.toList = l := rfl
theorem itxB_nil : itxB [] = ⟨#[]⟩ := rfl
theorem itxB_cons (x : Lx) (l : List Lx) : itxB (x :: l) = (litB x ++ (⟨#[10]⟩ : ByteArray)) ++ itxB l := by
  apply bytes_ext
  rw [Go.Joins.data_append, Go.Joins.data_append]
  unfold itxB
  rw [dat_mk, dat_mk, itxL_cons]
theorem itxL_len (l : List Lx) : (itxL l).length ≤ 351 * l.length := by
  induction l with
  | nil => simp [itxL]
  | cons x l ih =>
    rw [itxL_cons, List.length_append, List.length_append, len_data]
    have := lit_all x
    have e1 : ([10] : List UInt8).length = 1 := rfl
    have e2 : (x :: l).length = l.length + 1 := rfl
    omega
/-! An index read. -/
def rdiL : List Lx → List ByteArray → Option (List Lx)
  | _, [] => none
  | acc, [p] => if p.size = 0 then some acc else none
  | acc, p :: q :: r => if (rdlO p && fitB acc (rdlX p)) = true then rdiL (acc ++ [rdlX p]) (q :: r) else none
def rdiF (s : ByteArray) : Option (List Lx) := rdiL [] (splS 10 s)
def rdiO (s : ByteArray) : Bool := (rdiF s).isSome
def rdiX (s : ByteArray) : List Lx := (rdiF s).getD []
/-- As the specification reads it: all lines, then the index. -/
def allR (ws : List ByteArray) : Bool := ws.all rdlO
theorem rdiL_end (ws : List ByteArray) : ∀ (acc : List Lx) (e : ByteArray), rdiL acc (ws ++ [e]) =
    if e.size = 0 ∧ allR ws = true ∧ (∀ k, k < ws.length → fitB (acc ++ (ws.take k).map rdlX) (rdlX (ws.getD k ⟨#[]⟩)) = true) then some (acc ++ ws.map rdlX) else none := by
  induction ws with
  | nil => intro acc e; simp [rdiL, allR]
  | cons p ws ih =>
    intro acc e
    have hs : rdiL acc (p :: ws ++ [e]) = if (rdlO p && fitB acc (rdlX p)) = true then rdiL (acc ++ [rdlX p]) (ws ++ [e]) else none := by
      cases ws with
      | nil => rfl
      | cons q r => rfl
    rw [hs, ih]
    cases h1 : rdlO p
    · rw [Bool.false_and, if_neg (by simp), if_neg]
      rintro ⟨_, h2, _⟩
      unfold allR at h2
      rw [List.all_cons, h1] at h2; cases h2
    · rw [Bool.true_and]
      cases h2 : fitB acc (rdlX p)
      · rw [if_neg (by simp), if_neg]
        rintro ⟨_, _, h3⟩
        have := h3 0 (by simp)
        simp only [List.take_zero, List.map_nil, List.append_nil, List.getD_cons_zero] at this
        rw [h2] at this; cases this
      · rw [if_pos rfl]
        have e1 : acc ++ [rdlX p] ++ ws.map rdlX = acc ++ (p :: ws).map rdlX := by simp
        rw [e1]
        have hiff : (e.size = 0 ∧ allR ws = true ∧ ∀ k, k < ws.length → fitB (acc ++ [rdlX p] ++ (ws.take k).map rdlX) (rdlX (ws.getD k ⟨#[]⟩)) = true) ↔ (e.size = 0 ∧ allR (p :: ws) = true ∧ ∀ k, k < (p :: ws).length → fitB (acc ++ ((p :: ws).take k).map rdlX) (rdlX ((p :: ws).getD k ⟨#[]⟩)) = true) := by
          refine and_congr Iff.rfl (and_congr ?_ ?_)
          · unfold allR; rw [List.all_cons, h1, Bool.true_and]
          · constructor
            · intro h k hk
              cases k with
              | zero => simpa using h2
              | succ k =>
                have := h k (by simp only [List.length_cons] at hk; omega)
                simpa using this
            · intro h k hk
              have := h (k + 1) (by simp only [List.length_cons]; omega)
              simpa using this
        by_cases hh : (e.size = 0 ∧ allR ws = true ∧ ∀ k, k < ws.length → fitB (acc ++ [rdlX p] ++ (ws.take k).map rdlX) (rdlX (ws.getD k ⟨#[]⟩)) = true)
        · rw [if_pos hh, if_pos (hiff.1 hh)]
        · rw [if_neg hh, if_neg (fun h => hh (hiff.2 h))]
/-- Lines that fit one behind the other are an index. -/
theorem fit_all {l : List Lx} : (∀ k, k < l.length → fitB (l.take k) (lxAt l k) = true) ↔ idxQ l = true := by
  constructor
  · intro h
    have h4 : l.length ≤ 400 := by
      rcases Nat.lt_or_ge 400 l.length with h1 | h1
      · have := h 400 h1
        unfold fitB at this
        rw [List.length_take, Nat.min_eq_left (by omega)] at this
        simp at this
      · exact h1
    unfold idxQ idxP
    rw [decide_eq_true h4, Bool.true_and, List.all_eq_true]
    intro k hk
    have hk' := List.mem_range.1 hk
    rw [← fitB_take hk' (by omega)]
    exact h k hk'
  · intro h k hk
    unfold idxQ at h
    rw [Bool.and_eq_true, decide_eq_true_iff] at h
    rw [fitB_take hk (by omega)]
    exact idxP_fit hk h.2
theorem rdlX_nil (ws : List ByteArray) (k : Nat) (h : k < ws.length) : rdlX (ws.getD k ⟨#[]⟩) = lxAt (ws.map rdlX) k := by
  rw [lxAt_get (by simpa using h), List.getD, List.getElem?_eq_getElem h]
  simp
theorem rdiF_end (ws : List ByteArray) (e : ByteArray) : rdiL [] (ws ++ [e]) = if e.size = 0 ∧ allR ws = true ∧ idxQ (ws.map rdlX) = true then some (ws.map rdlX) else none := by
  rw [rdiL_end]
  have hiff : (∀ k, k < ws.length → fitB ([] ++ (ws.take k).map rdlX) (rdlX (ws.getD k ⟨#[]⟩)) = true) ↔ idxQ (ws.map rdlX) = true := by
    rw [← fit_all]
    constructor
    · intro h k hk
      rw [List.length_map] at hk
      have := h k hk
      rw [rdlX_nil _ _ hk, List.nil_append, List.map_take] at this
      exact this
    · intro h k hk
      have := h k (by rw [List.length_map]; exact hk)
      rw [rdlX_nil _ _ hk, List.nil_append, List.map_take]
      exact this
  by_cases hh : (e.size = 0 ∧ allR ws = true ∧ ∀ k, k < ws.length → fitB ([] ++ (ws.take k).map rdlX) (rdlX (ws.getD k ⟨#[]⟩)) = true)
  · rw [if_pos hh, if_pos ⟨hh.1, hh.2.1, hiff.1 hh.2.2⟩]; rfl
  · rw [if_neg hh, if_neg (fun h => hh ⟨h.1, h.2.1, hiff.2 h.2.2⟩)]
end Go.Proofs.YtenjbgpndkodmacGreatDoor
namespace Go.Proofs.YtenjbgpndkodmacGreatDoor
set_option linter.unusedVariables false
set_option linter.unusedSimpArgs false
open Go.RowKit
def rngA (l : List Lx) (key : ByteArray) : Int := if idxQ l = true then (loX l key : Int) else -1
def rngB (l : List Lx) (key : ByteArray) : Int := if idxQ l = true then (hiX l key : Int) else -1
theorem rng_no {l : List Lx} {key : ByteArray} (h : idxQ l = false) : rngA l key = -1 ∧ rngB l key = -1 := by
  unfold rngA rngB
  rw [if_neg (by rw [h]; simp), if_neg (by rw [h]; simp)]
  exact ⟨rfl, rfl⟩
theorem rng_yes {l : List Lx} {key : ByteArray} (h : idxQ l = true) : rngA l key = (loX l key : Int) ∧ rngB l key = (hiX l key : Int) := by
  unfold rngA rngB
  rw [if_pos h, if_pos h]
  exact ⟨rfl, rfl⟩
theorem bl_leq (a b : List UInt8) : (Op.bytesLess a b || a == b) = !(Op.bytesLess b a) := by
  cases h1 : Op.bytesLess b a
  · cases h2 : Op.bytesLess a b
    · rw [bl_tri h2 h1]; simp
    · rfl
  · rw [bl_asym h1]
    have : (a == b) = false := by
      cases h4 : (a == b)
      · rfl
      · rw [eq_of_beq h4, bl_irr] at h1; cases h1
    rw [this]; rfl
set_option maxRecDepth 100000 in
set_option maxHeartbeats 4000000 in
theorem countTo_any (v : Value) (l : List Lx) (key : ByteArray) (limit : Int) (P : Lx → Bool) (c : Nat) (w : World) (hv : SlX w v l) (hl : l.length ≤ 1048576)
    (hP : ∀ y, decide (kes y.ke key ≤ limit) = P y) (hm : ∀ k, k < l.length → (P (lxAt l k) = true ↔ k < c)) (hc : c ≤ l.length) :
    Calls Tryz.prog 33 #[v, .string key, .int .i64 limit, .func (.func 34) #[] #[]] w fun e w' => e = .returned (.int .i64 (c : Int)) ∧ Below w.heap.size w w' := by
  obtain ⟨a, c0, rfl⟩ := hv.form
  have HV := hideB2 hv
  have HP := hideB2 hP
  have HM := hideB2 hm
  clear hv hP hm
  generalize hn : l.length = n at *
  have HN := hideB2 hn
  clear hn
  go_enter Tryz.func33, Tryz.ntmps33
  go_wp2
  go_loopw [9, 10] (fun f t wr => ∃ p q : Nat, f = .int .i64 p ∧ t = .int .i64 q ∧ p ≤ c ∧ c ≤ q ∧ q ≤ n ∧ Below w.heap.size w wr) (fun f t _ => (intOf t).toNat - (intOf f).toNat)
  case atStart => exact ⟨0, n, rfl, rfl, Nat.zero_le _, hc, Nat.le_refl _, Below.refl _ _⟩
  case round =>
    obtain ⟨p, q, rfl, rfl, hpc, hcq, hqn, hb⟩ := hrel
    by_cases hlt : p < q
    · obtain ⟨m, hmid⟩ : ∃ m : Nat, m = (p + q) / 2 := ⟨_, rfl⟩
      have hm1 : p ≤ m := by omega
      have hm2 : m < q := by omega
      have e1 : ((p : Int) + (q : Int)) / 2 = (m : Int) := by omega
      have e2 : ((p : Int) + (q : Int)).tdiv 2 = (m : Int) := by rw [Int.tdiv_eq_ediv_of_nonneg (by omega)]; exact e1
      have hkl : m < l.length := by rw [HN.out]; omega
      have hmn : m < n := by omega
      obtain ⟨b, o, rfl, hr⟩ := HV.out.row (by omega)
      obtain ⟨p0, p1, p2, p3, p4, p5, p6, p7, p8, p9⟩ := (hr.keep hb).dat m hkl
      have HK := hideB2 (fun W => compareKey_any (lxAt l m) key W)
      have HPM := hideB2 (HP.out (lxAt l m))
      have HMM := hideB2 (HM.out m (by omega))
      have HB := hideB2 hb
      clear hr hb hkl hmid
      generalize lxAt l m = x at *
      generalize kes x.ke key = kv at *
      generalize P x = pb at *
      obtain ⟨ke, ti, si, me, st, la, rv, se, wh, sz⟩ := x
      simp only at p0 p1 p2 p3 p4 p5 p6 p7 p8 p9
      unfold lxV at HK
      simp only at HK
      go_wp2_with fail
      refine (HK.out _).mono ?_
      rintro e3 w3 ⟨rfl, hb3⟩
      have HB3 := hideB2 (HB.out.trans (hb3.mono HB.out.size))
      clear hb3 p0 p1 p2 p3 p4 p5 p6 p7 p8 p9 HK HB e1 e2
      by_cases hk : kv ≤ limit
      · have hmc : m < c := HMM.out.1 (by rw [← HPM.out]; exact decide_eq_true hk)
        go_wp2
        exact ⟨⟨m + 1, q, by go_num, rfl, by omega, hcq, hqn, HB3.out⟩, by simp [intOf]; omega⟩
      · have hmc : ¬ m < c := fun h => by
          have h2 := HMM.out.2 h
          rw [← HPM.out] at h2
          exact hk (of_decide_eq_true h2)
        go_wp2
        exact ⟨⟨p, m, rfl, by go_num, hpc, by omega, by omega, HB3.out⟩, by simp [intOf]; omega⟩
    · obtain rfl : p = c := by omega
      have HB := hideB2 hb
      clear hb
      go_wp2
      go_ret
      exact ⟨rfl, HB.out⟩
set_option maxRecDepth 100000 in
set_option maxHeartbeats 4000000 in
theorem IndexRange_any (v : Value) (l : List Lx) (key : ByteArray) (w : World) (hv : SlX w v l) (hc : CapX v) (hb : BdX l) (hl : l.length ≤ 1048576) (htab : Tab10 w) :
    Calls Tryz.prog 16 #[v, .string key] w fun e w' => e = .returned (.tuple #[.int .i64 (rngA l key), .int .i64 (rngB l key)]) ∧ Below w.heap.size w w' := by
  have HK := hideB2 (IndexOk_any v l w hv hc hb hl htab)
  cases hq : idxQ l
  · obtain ⟨r1, r2⟩ := rng_no (key := key) hq
    rw [r1, r2]
    rw [hq] at HK
    clear hq r1 r2 hb htab
    obtain ⟨a, c0, rfl⟩ := hv.form
    clear hv hc
    go_enter Tryz.func16, Tryz.ntmps16
    go_wp2_with fail
    refine HK.out.mono ?_
    rintro e1 w1 ⟨rfl, hb1⟩
    have HB1 := hideB2 hb1
    clear hb1
    go_wp2
    go_ret2
    exact ⟨rfl, HB1.out⟩
  · obtain ⟨r1, r2⟩ := rng_yes (key := key) hq
    rw [r1, r2]
    rw [hq] at HK
    have hs := (idx_iff.1 hq).2.2
    have H1 := hideB2 (fun W (h : SlX W v l) => countTo_any v l key (-1) (loP key) (loX l key) W h hl (fun y => kes_lo y key) (fun k hk => loX_iff hs key hk) (cutP_le _ l))
    have H2 := hideB2 (fun W (h : SlX W v l) => countTo_any v l key 0 (hiP key) (hiX l key) W h hl (fun y => kes_hi y key) (fun k hk => hiX_iff hs key hk) (cutP_le _ l))
    have HV := hideB2 hv
    clear hq r1 r2 hb htab hs
    obtain ⟨a, c0, rfl⟩ := hv.form
    clear hv hc
    generalize loX l key = lo at *
    generalize hiX l key = hi at *
    go_enter Tryz.func16, Tryz.ntmps16
    go_wp2_with fail
    refine HK.out.mono ?_
    rintro e1 w1 ⟨rfl, hb1⟩
    have HB1 := hideB2 hb1
    have HV1 := hideB2 (HV.out.later hb1)
    clear hb1 HK HV
    go_wp2_with fail
    refine (H1.out _ HV1.out).mono ?_
    rintro e2 w2 ⟨rfl, hb2⟩
    have HB2 := hideB2 (below_then HB1.out hb2)
    have HV2 := hideB2 (HV1.out.later hb2)
    clear hb2 HV1 HB1 H1
    go_wp2_with fail
    refine (H2.out _ HV2.out).mono ?_
    rintro e3 w3 ⟨rfl, hb3⟩
    have HB3 := hideB2 (below_then HB2.out hb3)
    clear hb3 HV2 HB2 H2
    go_wp2
    go_ret2
    exact ⟨rfl, HB3.out⟩
set_option maxRecDepth 100000 in
set_option maxHeartbeats 4000000 in
theorem sIndexRange_any (v : Value) (l : List Lx) (key : ByteArray) (w : World) (hv : SlX w v l) (hb : BdX l) (hl : l.length ≤ 1048576) :
    Calls Tryz.prog 15 #[v, .string key] w fun e w' => e = .returned (.tuple #[.int .i64 (rngA l key), .int .i64 (rngB l key)]) ∧ Below w.heap.size w w' := by
  have HK := hideB2 (sIndexOk_any v l w hv hb hl)
  cases hq : idxQ l
  · obtain ⟨r1, r2⟩ := rng_no (key := key) hq
    rw [r1, r2]
    rw [hq] at HK
    clear hq r1 r2 hb
    obtain ⟨a, c0, rfl⟩ := hv.form
    clear hv
    go_enter Tryz.func15, Tryz.ntmps15
    go_wp2_with fail
    refine HK.out.mono ?_
    rintro e1 w1 ⟨rfl, hb1⟩
    have HB1 := hideB2 hb1
    clear hb1
    go_wp2
    go_ret2
    exact ⟨rfl, HB1.out⟩
  · obtain ⟨r1, r2⟩ := rng_yes (key := key) hq
    rw [r1, r2]
    rw [hq] at HK
    have hs := (idx_iff.1 hq).2.2
    have H1 := hideB2 (fun k hk => loX_iff hs key (k := k) hk)
    have H2 := hideB2 (fun k hk => hiX_iff hs key (k := k) hk)
    have hlo : loX l key ≤ l.length := cutP_le _ l
    have hhi : hiX l key ≤ l.length := cutP_le _ l
    have HV := hideB2 hv
    clear hq r1 r2 hb hs
    obtain ⟨a, c0, rfl⟩ := hv.form
    clear hv
    generalize loX l key = lo at *
    generalize hiX l key = hi at *
    generalize hn : l.length = n at *
    have HN := hideB2 hn
    clear hn
    go_enter Tryz.func15, Tryz.ntmps15
    go_wp2_with fail
    refine HK.out.mono ?_
    rintro e1 w1 ⟨rfl, hb1⟩
    have HB1 := hideB2 hb1
    clear hb1 HK
    go_wp2
    go_loopw [6, 7, 8] (fun f t i wr => ∃ k p q : Nat, k ≤ n ∧ f = .int .i64 p ∧ t = .int .i64 q ∧ i = .int .i64 k ∧ (k ≤ lo ∧ p = k ∨ lo ≤ k ∧ p = lo) ∧ (k ≤ hi ∧ q = k ∨ hi ≤ k ∧ q = hi) ∧ Below w.heap.size w wr) (fun _ _ i _ => n - (intOf i).toNat)
    case atStart => exact ⟨0, 0, 0, Nat.zero_le _, rfl, rfl, rfl, by omega, by omega, HB1.out⟩
    case round =>
      obtain ⟨k, p, q, hk, rfl, rfl, rfl, hp, hq, hb⟩ := hrel
      clear HB1
      by_cases hlt : k < n
      · have hkl : k < l.length := by rw [HN.out]; exact hlt
        obtain ⟨b, o, rfl, hr⟩ := HV.out.row (by omega)
        have p0 := ((hr.keep hb).dat k hkl).c0
        have h1 := H1.out k (by rw [HN.out] at hkl; exact hkl)
        have h2 := H2.out k (by rw [HN.out] at hkl; exact hkl)
        unfold loP at h1
        unfold hiP at h2
        rw [← bl_leq] at h2
        have HB := hideB2 hb
        clear hr hb hkl
        generalize (lxAt l k).ke = ke at *
        have hpn : p ≤ 1048576 := by omega
        have hqn : q ≤ 1048576 := by omega
        by_cases c1 : k < lo
        · have d1 := h1.2 c1
          by_cases c2 : k < hi
          · have d2 := h2.2 c2
            clear h1 h2
            go_wp2
            exact ⟨⟨k + 1, p + 1, q + 1, by omega, by go_num, by go_num, by go_num, by omega, by omega, HB.out⟩, by simp [intOf]; omega⟩
          · exfalso
            exact c2 (h2.1 (by rw [d1]; rfl))
        · have d1 : Op.bytesLess ke.toList key.toList = false := by
            cases e : Op.bytesLess ke.toList key.toList
            · rfl
            · exact absurd (h1.1 e) c1
          by_cases c2 : k < hi
          · have d2 := h2.2 c2
            rw [d1, Bool.false_or] at d2
            clear h1 h2
            go_wp2
            exact ⟨⟨k + 1, p, q + 1, by omega, by go_num, by go_num, by go_num, by omega, by omega, HB.out⟩, by simp [intOf]; omega⟩
          · have d2 : (Op.bytesLess ke.toList key.toList || ke.toList == key.toList) = false := by
              cases e : (Op.bytesLess ke.toList key.toList || ke.toList == key.toList)
              · rfl
              · exact absurd (h2.1 e) c2
            rw [d1, Bool.false_or] at d2
            clear h1 h2
            go_wp2
            exact ⟨⟨k + 1, p, q, by omega, by go_num, by go_num, by go_num, by omega, by omega, HB.out⟩, by simp [intOf]; omega⟩
      · obtain rfl : p = lo := by omega
        obtain rfl : q = hi := by omega
        have HB := hideB2 hb
        clear hb
        go_wp2
        go_ret2
        exact ⟨rfl, HB.out⟩
end Go.Proofs.YtenjbgpndkodmacGreatDoor
namespace Go.Proofs.YtenjbgpndkodmacGreatDoor
set_option linter.unusedVariables false
set_option linter.unusedSimpArgs false
open Go.ChangeShapes Go.WideShapes Go.ChangeAt Go.RowKit

/-- A block's cells, laid anew. -/
def laidRow (cs : Array Value) : Obj → Obj
  | .cells _ t frozen => .cells cs t frozen
  | o => o
theorem laid_mem {P : Program} {w : World} : ∀ {l : List (String × DataW Unit)} {ps : List MemPlace}, DataW.LaidVars P w l ps → ∀ (n : String) (d : DataW Unit), (n, d) ∈ l →
    ∃ g t cs fuel p, P.globalNamed n = some g ∧ (P.globals[g]?).map (·.type) = some t ∧ w.var? P n = some cs ∧ DataW.trod (fun _ => ()) P w 0 (fun _ => true) false fuel t cs.toList = some (d, p)
  | [], _, _, n, d, hm => by simp at hm
  | (n0, d0) :: r, ps, h, n, d, hm => by
    obtain ⟨g, t, cs, fuel, p, q, h1, h2, h3, h4, h5, _⟩ := h
    rcases List.mem_cons.1 hm with e | e
    · cases e
      exact ⟨g, t, cs, fuel, p, h1, h2, h3, h4⟩
    · exact laid_mem h5 n d e
end Go.Proofs.YtenjbgpndkodmacGreatDoor
namespace Go.Proofs.YtenjbgpndkodmacGreatDoor
set_option linter.unusedVariables false
set_option linter.unusedSimpArgs false
open Go.ChangeShapes Go.WideShapes Go.ChangeAt Go.RowKit
theorem dectab_of_laid {W : World} {l : List (String × DataW Unit)} (hm : ("internal/strconv.uint64pow10", Rows.laid_internal_strconv_uint64pow10) ∈ l) (h : laidMet Tryz.prog l W) : Tab10 W := by
  obtain ⟨ps, hl, _⟩ := h
  obtain ⟨g, t, cs, fuel, p, h1, h2, h3, h4⟩ := laid_mem hl _ _ hm
  have hg : Tryz.prog.globalNamed "internal/strconv.uint64pow10" = some 2 := by kernel_rfl
  have ht : (Tryz.prog.globals[2]?).map (·.type) = some 147 := by kernel_rfl
  obtain rfl := Option.some.inj (hg.symm.trans h1)
  obtain rfl := Option.some.inj (ht.symm.trans h2)
  have hc := Lib.cells_of_tab (k := .u64) (zs := Lib.pow10Tab) Tryz.underlying147 Tryz.underlying138 (by kernel_rfl) (by kernel_rfl) h4
  unfold Tab10 Lib.TabIs
  rw [h3, ← hc]
end Go.Proofs.YtenjbgpndkodmacGreatDoor
namespace Go.Proofs.YtenjbgpndkodmacGreatDoor
set_option linter.unusedVariables false
set_option linter.unusedSimpArgs false
open Go.ChangeShapes Go.WideShapes Go.ChangeAt Go.RowKit

/-- A table of texts as a row lists it, and what its cells hold. -/
def stabData {H : Type} (zs : List (List UInt8)) : DataW H := .agg (zs.map fun z => .lit (.string z))
theorem cells_of_stab {H : Type} {enc : TypeId × Value → H} {P : Program} {w : World} {base : Nat} {sp : Nat → Bool} {held : Bool} {fuel : Nat} {t e : TypeId} {n : Nat} {cs : List Value} {zs : List (List UInt8)} {p : List MemPlace}
    (ht : P.underlying t = some (.array n e)) (he : P.underlying e = some .string) (hce : P.cellsOf e = 1) (hct : P.cellsOf t = n)
    (h : DataW.trod enc P w base sp held fuel t cs = some (stabData zs, p)) : cs = zs.map fun z => Value.string ⟨z.toArray⟩ := by
  cases fuel with
  | zero => simp [DataW.trod] at h
  | succ fuel =>
    simp only [DataW.trod, ht, hce, hct, Nat.mul_one] at h
    split at h
    · rename_i hl
      obtain ⟨xs, hm, hx⟩ := Option.map_eq_some_iff.1 h
      have hxs : xs.map (·.1) = zs.map fun z => (DataW.lit (.string z) : DataW H) := by
        have := congrArg Prod.fst hx
        simpa [stabData] using this
      have hxl : xs.length = n := by simpa using Lib.mapM_length hm
      have hzl : zs.length = n := by
        have := congrArg List.length hxs
        simp at this
        omega
      apply List.ext_getElem?
      intro i
      by_cases hi : i < n
      · obtain ⟨b, hb, hf⟩ := Lib.mapM_at hm i i (by simp [hi])
        obtain ⟨z, hc, rfl, _⟩ := DataW.trod_string he hf
        have h1 : cs[i]? = some (.string z) := by
          have := congrArg (·[0]?) hc
          simpa [List.getElem?_take, List.getElem?_drop] using this
        have h2 : (xs.map (·.1))[i]? = some (DataW.lit (.string z.data.toList) : DataW H) := by simp [hb]
        rw [hxs] at h2
        simp only [List.getElem?_map, Option.map_eq_some_iff, DataW.lit.injEq, Lit.string.injEq] at h2
        obtain ⟨z', hz', rfl⟩ := h2
        simp [h1, hz']
      · rw [List.getElem?_eq_none (by omega), List.getElem?_eq_none (by simp; omega)]
    · cases h
theorem trodVars_one' {H : Type} {enc : TypeId × Value → H} {P : Program} {w : World} {sp : Nat → Bool} {n : String} : ∀ {gs : List (DataW H)} {ps : List MemPlace}, DataW.TrodVars enc P w sp [n] gs ps → ∃ a, gs = [a]
  | [a], _, _ => ⟨a, rfl⟩
  | [], _, h => h.elim
  | _ :: _ :: _, _, h => by obtain ⟨_, _, _, _, _, _, _, _, _, _, h, _⟩ := h; exact h.elim
theorem trodVars_three' {H : Type} {enc : TypeId × Value → H} {P : Program} {w : World} {sp : Nat → Bool} {n0 n1 n2 : String} : ∀ {gs : List (DataW H)} {ps : List MemPlace}, DataW.TrodVars enc P w sp [n0, n1, n2] gs ps → ∃ a b c, gs = [a, b, c]
  | [a, b, c], _, _ => ⟨a, b, c, rfl⟩
  | [], _, h => h.elim
  | [_], _, h => by obtain ⟨_, _, _, _, _, _, _, _, _, _, h, _⟩ := h; exact h.elim
  | [_, _], _, h => by
    obtain ⟨_, _, _, _, _, _, _, _, _, _, h, _⟩ := h
    obtain ⟨_, _, _, _, _, _, _, _, _, _, h, _⟩ := h
    exact h.elim
  | _ :: _ :: _ :: _ :: _, _, h => by
    obtain ⟨_, _, _, _, _, _, _, _, _, _, h, _⟩ := h
    obtain ⟨_, _, _, _, _, _, _, _, _, _, h, _⟩ := h
    obtain ⟨_, _, _, _, _, _, _, _, _, _, h, _⟩ := h
    exact h.elim

theorem array6 {α : Type} {cs : Array α} (h : cs.size = 6) : ∃ c0 c1 c2 c3 c4 c5, cs = #[c0, c1, c2, c3, c4, c5] := by
  obtain ⟨l⟩ := cs
  match l, h with
  | [c0, c1, c2, c3, c4, c5], _ => exact ⟨c0, c1, c2, c3, c4, c5, rfl⟩
/-- A struct of six ints, by value, opened. -/
theorem open_civ {H : Type} {enc : TypeId × Value → H} {P : Program} {w : World} {base : Nat} {spare : Nat → Bool} {held : Bool} {r : Reach} {b0 : Nat} {t : TypeId} {f0 f1 f2 f3 f4 f5 : Field} {v : Value} {d : DataW H} {p : List MemPlace}
    (hs : P.underlying t = some (.struct #[f0, f1, f2, f3, f4, f5])) (hone : Go.Deep.oneCellFields P #[f0, f1, f2, f3, f4, f5] = true) (hC : P.cellsOf t = 6)
    (e0 : P.underlying f0.type = some (.int .i64)) (e1 : P.underlying f1.type = some (.int .i64)) (e2 : P.underlying f2.type = some (.int .i64)) (e3 : P.underlying f3.type = some (.int .i64)) (e4 : P.underlying f4.type = some (.int .i64)) (e5 : P.underlying f5.type = some (.int .i64))
    (hv : Value.okWide P w r b0 t v) (h : DataW.Trod enc P w base spare held t v d p) :
    ∃ a b c d e f : Int, v = civ a b c d e f ∧ (Lit.int .i64 a).wf = true ∧ (Lit.int .i64 b).wf = true ∧ (Lit.int .i64 c).wf = true ∧ (Lit.int .i64 d).wf = true ∧ (Lit.int .i64 e).wf = true ∧ (Lit.int .i64 f).wf = true := by
  obtain ⟨cs, rfl, hsz⟩ := okWide_struct hs hv
  obtain ⟨c0, c1, c2, c3, c4, c5, rfl⟩ := array6 (hsz.trans hC)
  obtain ⟨fuel, hf⟩ := h
  obtain ⟨xs, n, _, _, hl, hlen, hf⟩ := DataW.trod_struct hs hf
  obtain ⟨o0, k0⟩ := Go.Deep.hone_of hone 0 f0 rfl
  obtain ⟨o1, k1⟩ := Go.Deep.hone_of hone 1 f1 rfl
  obtain ⟨o2, k2⟩ := Go.Deep.hone_of hone 2 f2 rfl
  obtain ⟨o3, k3⟩ := Go.Deep.hone_of hone 3 f3 rfl
  obtain ⟨o4, k4⟩ := Go.Deep.hone_of hone 4 f4 rfl
  obtain ⟨o5, k5⟩ := Go.Deep.hone_of hone 5 f5 rfl
  have one : ∀ {ty : TypeId} {c : Value} {x : Option (DataW H × List MemPlace)}, P.underlying ty = some (.int .i64) → x.isSome = true → DataW.trod enc P w base spare held n ty [c] = x → ∃ z : Int, c = .int .i64 z ∧ (Lit.int .i64 z).wf = true := by
    intro ty c x hu hx ht
    obtain ⟨y, hy⟩ := Option.isSome_iff_exists.1 hx
    rw [hy] at ht
    obtain ⟨z, hz, _, hw⟩ := DataW.trod_int hu ht
    exact ⟨z, by simpa using hz, hw⟩
  have g : ∀ j, j < 6 → (xs[j]?).isSome = true := by
    intro j hj
    have : xs.length = 6 := by simpa using hlen
    rw [List.getElem?_eq_getElem (by omega)]; rfl
  obtain ⟨a, rfl, wa⟩ := one e0 (g 0 (by omega)) (by simpa [Value.cells, o0, k0] using hf 0 f0 rfl)
  obtain ⟨b, rfl, wb⟩ := one e1 (g 1 (by omega)) (by simpa [Value.cells, o1, k1] using hf 1 f1 rfl)
  obtain ⟨c, rfl, wc⟩ := one e2 (g 2 (by omega)) (by simpa [Value.cells, o2, k2] using hf 2 f2 rfl)
  obtain ⟨d', rfl, wd⟩ := one e3 (g 3 (by omega)) (by simpa [Value.cells, o3, k3] using hf 3 f3 rfl)
  obtain ⟨e, rfl, we⟩ := one e4 (g 4 (by omega)) (by simpa [Value.cells, o4, k4] using hf 4 f4 rfl)
  obtain ⟨f, rfl, wf⟩ := one e5 (g 5 (by omega)) (by simpa [Value.cells, o5, k5] using hf 5 f5 rfl)
  exact ⟨a, b, c, d', e, f, rfl, wa, wb, wc, wd, we, wf⟩
theorem montab_of_laid {W : World} {l : List (String × DataW Unit)} (hm : ("loop.example/g00651/impl.monthLengths", Rows.laid_loop_example_g00651_impl_monthLengths) ∈ l) (h : laidMet Tryz.prog l W) : MonTab W := by
  obtain ⟨ps, hl, _⟩ := h
  obtain ⟨g, t, cs, fuel, p, h1, h2, h3, h4⟩ := laid_mem hl _ _ hm
  have hg : Tryz.prog.globalNamed "loop.example/g00651/impl.monthLengths" = some 1 := by kernel_rfl
  have ht : (Tryz.prog.globals[1]?).map (·.type) = some 119 := by kernel_rfl
  obtain rfl := Option.some.inj (hg.symm.trans h1)
  obtain rfl := Option.some.inj (ht.symm.trans h2)
  have hc := Lib.cells_of_tab (k := .i64) (zs := [0, 31, 28, 31, 30, 31, 30, 31, 31, 30, 31, 30, 31]) Tryz.underlying119 Tryz.underlying3 (by kernel_rfl) (by kernel_rfl) h4
  have hT : Lib.TabIs Tryz.prog W "loop.example/g00651/impl.monthLengths" .i64 [0, 31, 28, 31, 30, 31, 30, 31, 31, 30, 31, 30, 31] := by
    unfold Lib.TabIs
    rw [h3, ← hc]
  intro k hk
  exact hT.cell hg k hk
end Go.Proofs.YtenjbgpndkodmacGreatDoor
