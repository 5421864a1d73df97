/-
  The walks over chapter 3: five words out of a list, and back.
-/
import Derived.Test.YtknpolmenfdheaaD3
import Derived.Test.YtknpolmenfdheaaD4
namespace Go.Proofs.Ytknpolmenfdheaa
set_option linter.unusedVariables false
set_option linter.unusedSimpArgs false
open Go.RowKit
/-- A row of ints of one's own. -/
structure RowZ (w : World) (b : Nat) (xs : List Int) : Prop where
  cell : ∀ j, j < xs.length → w.cell? ⟨b, j, none⟩ = some (.int .i64 (xs.getD j 0))
  free : ∀ j, w.frozen? ⟨b, j, none⟩ = false
  lt : b < w.heap.size
def nz (l : List Nat) : List Int := l.map fun (x : Nat) => (x : Int)
theorem nz_len (l : List Nat) : (nz l).length = l.length := by simp [nz]
theorem nz_at (l : List Nat) (j : Nat) : (nz l).getD j 0 = ((l.getD j 0 : Nat) : Int) := by
  unfold nz
  rw [List.getD, List.getD, List.getElem?_map]
  cases l[j]? <;> rfl
theorem RowN.z {w : World} {b : Nat} {l : List Nat} (h : RowN w b l) : RowZ w b (nz l) :=
  ⟨fun j hj => by rw [nz_at]; exact h.cell j (by rwa [nz_len] at hj), h.free, h.lt⟩
theorem RowZ.n {w : World} {b : Nat} {l : List Nat} (h : RowZ w b (nz l)) : RowN w b l :=
  ⟨fun j hj => by rw [← nz_at]; exact h.cell j (by rwa [nz_len]), h.free, h.lt⟩
theorem RowZ.later {w w' : World} {b B : Nat} {l : List Int} (h : RowZ w b l) (k : Below B w w') (hb : b < B) : RowZ w' b l :=
  ⟨fun j hj => by rw [k.cell (p := ⟨b, j, none⟩) hb]; exact h.cell j hj, fun j => by rw [k.frozen (p := ⟨b, j, none⟩) hb]; exact h.free j, Nat.lt_of_lt_of_le h.lt k.size⟩
theorem RowZ.keep {w w' : World} {b : Nat} {l : List Int} (h : RowZ w b l) (k : Below w.heap.size w w') : RowZ w' b l := h.later k h.lt
theorem RowN.keep {w w' : World} {b : Nat} {l : List Nat} (h : RowN w b l) (k : Below w.heap.size w w') : RowN w' b l := h.later k h.lt
theorem RowZ.set {w : World} {b : Nat} {l : List Int} (h : RowZ w b l) (k : Nat) (v : Int) (hk : k < l.length) : RowZ (w.setCell ⟨b, k, none⟩ (.int .i64 v)) b (l.set k v) := by
  refine ⟨fun j hj => ?_, fun j => ?_, by simpa [World.setCell] using h.lt⟩
  · rw [List.length_set] at hj
    by_cases e : j = k
    · subst e
      rw [World.cell?_setCell_same _ _ _ (h.cell j hj)]
      simp [List.getD, hk]
    · rw [World.cell?_setCell_other _ _ _ _ (by intro hh; apply e; injection hh with _ h2; exact h2.symm), h.cell j hj]
      simp [List.getD, Ne.symm e]
  · rw [World.frozen?_setCell]
    exact h.free j
theorem RowZ.other {w : World} {b b' : Nat} {l : List Int} (h : RowZ w b l) (hne : b' ≠ b) (k : Nat) (v : Value) : RowZ (w.setCell ⟨b', k, none⟩ v) b l := by
  refine ⟨fun j hj => ?_, fun j => ?_, by simpa [World.setCell] using h.lt⟩
  · rw [World.cell?_setCell_other _ _ _ _ (by intro hh; injection hh with h1 _; exact hne h1)]
    exact h.cell j hj
  · rw [World.frozen?_setCell]
    exact h.free j
/-- Five words? -/
def fiveZ (xs : List Int) : Bool := decide (xs.length = 5) && xs.all wordQ
theorem fiveZ_len {xs : List Int} (h : xs.length ≠ 5) : fiveZ xs = false := by simp [fiveZ, h]
theorem fiveZ_bad {xs : List Int} {k : Nat} (hk : k < xs.length) (h : wordQ (xs.getD k 0) = false) : fiveZ xs = false := by
  cases hh : fiveZ xs with
  | false => rfl
  | true =>
    simp only [fiveZ, Bool.and_eq_true, List.all_eq_true] at hh
    have := hh.2 _ (List.getElem_mem hk)
    rw [List.getD, List.getElem?_eq_getElem hk, Option.getD_some] at h
    rw [h] at this; cases this
theorem fiveZ_good {xs : List Int} (hl : xs.length = 5) (h : ∀ j, j < 5 → wordQ (xs.getD j 0) = true) : fiveZ xs = true := by
  simp only [fiveZ, Bool.and_eq_true, List.all_eq_true, decide_eq_true_eq]
  refine ⟨hl, fun x hx => ?_⟩
  obtain ⟨j, hj, rfl⟩ := List.getElem_of_mem hx
  have := h j (by omega)
  rwa [List.getD, List.getElem?_eq_getElem hj, Option.getD_some] at this
theorem fiveZ_of {h : List Nat} (f : Five h) : fiveZ (nz h) = true := by
  refine fiveZ_good (by rw [nz_len]; exact f.1) fun j _ => ?_
  rw [nz_at]
  have := getD_lt (B := 4294967296) (by decide) f.2 j
  exact wordQ_iff.2 ⟨by omega, by omega⟩
theorem fiveZ_nat {xs : List Int} (h : fiveZ xs = true) : ∃ l : List Nat, Five l ∧ xs = nz l := by
  simp only [fiveZ, Bool.and_eq_true, List.all_eq_true, decide_eq_true_eq] at h
  obtain ⟨hl, hw⟩ := h
  refine ⟨xs.map Int.toNat, ⟨by rw [List.length_map]; exact hl, fun x hx => ?_⟩, ?_⟩
  · rw [List.mem_map] at hx
    obtain ⟨y, hy, rfl⟩ := hx
    have := wordQ_iff.1 (hw y hy)
    omega
  · unfold nz
    rw [List.map_map]
    conv => lhs; rw [← List.map_id xs]
    apply List.map_congr_left
    intro x hx
    have := wordQ_iff.1 (hw x hx)
    show x = ((x.toNat : Nat) : Int)
    omega
set_option maxHeartbeats 1000000 in
theorem l3words_any (b n cap : Nat) (xs : List Int) (w : World) (hr : RowZ w b xs) (hn : xs.length = n) (hm : n ≤ maxLen) :
    Calls Try.prog 35 #[.slice (some ⟨b, 0, none⟩) n cap] w fun e w' => e = .returned (.bool (fiveZ xs)) ∧ w' = w := by
  unfold maxLen at hm
  by_cases h5 : n = 5
  · subst h5
    go_enter Try.func35, Try.ntmps35
    go_wp2
    go_loop [3] (fun i => ∃ k : Nat, k ≤ 5 ∧ i = .int .i64 k ∧ ∀ j, j < k → wordQ (xs.getD j 0) = true) (fun i => 5 - (intOf i).toNat)
    case atStart => exact ⟨0, by omega, rfl, fun j hj => absurd hj (by omega)⟩
    case round =>
      obtain ⟨k, hk, rfl, hall⟩ := hrel
      by_cases hlt : k < 5
      · have hc := hr.cell k (by omega)
        have HA := hideB2 hall
        have HN := hideB2 hn
        clear hall
        cases hq : wordQ (xs.getD k 0) with
        | true =>
          have HQ := hideB2 hq
          generalize hx : xs.getD k 0 = x at *
          have HX := hideB2 hx
          clear hx hn
          go_wp2_with (go_at_call 42; refine (l3word_any _ _).mono ?_; rintro e w' ⟨rfl, rfl⟩)
          go_round
          case rel =>
            refine ⟨k + 1, by omega, by go_num, fun j hj => ?_⟩
            by_cases e : j = k
            · subst e; rw [HX.out]; exact HQ.out
            · exact HA.out j (by omega)
          case measure => simp [intOf]; omega
        | false =>
          have HF := hideB2 (fiveZ_bad (by omega) hq)
          generalize xs.getD k 0 = x at *
          clear hn
          go_wp2_with (go_at_call 42; refine (l3word_any _ _).mono ?_; rintro e w' ⟨rfl, rfl⟩)
          go_ret
          exact ⟨ret_bool HF.out, rfl⟩
      · obtain rfl : k = 5 := by omega
        have HF := hideB2 (fiveZ_good hn hall)
        clear hn hall
        go_wp2
        go_ret
        exact ⟨ret_bool HF.out, rfl⟩
  · have hne : ((n : Int) != 5) = true := by rw [bne_iff_ne]; omega
    have HF := hideB2 (fiveZ_len (xs := xs) (by omega))
    clear hn
    go_enter Try.func35, Try.ntmps35
    go_wp2
    go_ret
    exact ⟨ret_bool HF.out, rfl⟩
theorem u32_bd (x : Nat) (h : x < 4294967296) : 0 ≤ (x : Int) ∧ (x : Int) ≤ 4294967295 := by omega
set_option maxHeartbeats 1000000 in
theorem numbersOf_any (g n cap : Nat) (l : List Nat) (t : TypeId) (w : World) (hB : Blk w g (cU l) t) (hl : l.length = n) (hn : n ≤ 80) (hw : ∀ x ∈ l, x < 4294967296) :
    Calls Try.prog 26 #[.slice (some ⟨g, 0, none⟩) n cap] w fun e w' => e = .returned (.slice (some ⟨w.heap.size, 0, none⟩) n n) ∧ RowN w' w.heap.size l ∧ Below w.heap.size w w' := by
  have HG := hideB2 hB.lt
  have HC := hideB2 (fun j (hj : j < n) => (hB.cell j).trans (cU_at l j (by omega)))
  clear hB
  go_enter Try.func26, Try.ntmps26
  go_wp2_with (refine wp_mkI rfl _ _ rfl n _ _ rfl rfl rfl rfl (by omega) ?_; intro W1 hr1 hb1; have HR := hideB2 hr1; have HB := hideB2 hb1; clear hr1 hb1)
  go_loopw [10] (fun i wr => ∃ k : Nat, k ≤ n ∧ i = .int .i64 k ∧ RowN wr w.heap.size (fillR (l.take k) n) ∧ Below w.heap.size w wr) (fun i _ => n - (intOf i).toNat)
  case atStart => exact ⟨0, Nat.zero_le _, rfl, by rw [List.take_zero, fillR_nil]; exact HR.out, HB.out⟩
  case round =>
    obtain ⟨k, hk, rfl, hrow, hb⟩ := hrel
    clear HR HB
    have htl : (l.take k).length = k := by simp; omega
    by_cases hlt : k < n
    · have hlen : (fillR (l.take k) n).length = n := fillR_len _ _ (by omega)
      have hcd := hrow.cell k (by omega)
      have hfd := hrow.free k
      have hcs : wr.cell? ⟨g, k, none⟩ = some (.int .u32 ((l.getD k 0 : Nat) : Int)) := by rw [hb.cell (p := ⟨g, k, none⟩) HG.out]; exact HC.out k hlt
      have hx := getD_lt (B := 4294967296) (by decide) hw k
      have htk : l.take (k + 1) = l.take k ++ [l.getD k 0] := by
        rw [List.take_succ_eq_append_getElem (by omega), List.getD, List.getElem?_eq_getElem (by omega)]
        rfl
      have R := hrow.set k (l.getD k 0) (by omega)
      have hfs := fillR_set (l.take k) n (l.getD k 0) (by omega)
      rw [htl, ← htk] at hfs
      rw [← hfs] at R
      have HR := hideB2 R
      have HRB := hideB2 (hb.setCell (p := ⟨w.heap.size, k, none⟩) (by simp) (.int .i64 ((l.getD k 0 : Nat) : Int)))
      have HL := hideB2 hl
      clear R hfs htk hlen htl hrow hb hl
      generalize l.getD k 0 = x at *
      generalize (fillR (l.take k) n).getD k 0 = y at *
      go_wp2
      exact ⟨⟨k + 1, by omega, by go_num, HR.out, HRB.out⟩, by simp [intOf]; omega⟩
    · obtain rfl : k = n := by omega
      rw [show fillR (l.take k) k = l by rw [List.take_of_length_le (by omega)]; have := fillR_full l; rwa [hl] at this] at hrow
      go_wp2
      go_ret
      exact ⟨rfl, hrow, hb⟩
end Go.Proofs.Ytknpolmenfdheaa
