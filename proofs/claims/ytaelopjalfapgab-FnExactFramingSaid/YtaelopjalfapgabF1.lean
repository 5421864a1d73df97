/-
  Chapter 5: fields as pairs of texts, and rows of fields in memory.
-/
import Derived.Test.YtaelopjalfapgabBK2
namespace Go.Proofs.Ytaelopjalfapgab
set_option linter.unusedVariables false
set_option linter.unusedSimpArgs false
open Go.RowKit
/-- A field: its name and its value. -/
abbrev Fd := ByteArray × ByteArray
def fd0 : Fd := (⟨#[]⟩, ⟨#[]⟩)
/-- Number j, or the empty one. -/
def fdAt (l : List Fd) (j : Nat) : Fd := l.getD j fd0
theorem fdAt_get {l : List Fd} {j : Nat} (h : j < l.length) : fdAt l j = l[j] := by
  unfold fdAt; rw [List.getD, List.getElem?_eq_getElem h]; rfl
/-- All bytes together. -/
def szF (x : Fd) : Nat := x.1.size + x.2.size
def totF (l : List Fd) : Nat := (l.map szF).sum
theorem totF_nil : totF [] = 0 := rfl
theorem totF_app (a b : List Fd) : totF (a ++ b) = totF a + totF b := by simp [totF]
theorem totF_one (s : Fd) : totF [s] = szF s := by simp [totF]
theorem takeF_next (l : List Fd) (k : Nat) (h : k < l.length) : l.take (k + 1) = l.take k ++ [fdAt l k] := by
  rw [List.take_succ_eq_append_getElem h, fdAt_get h]
theorem totF_next (l : List Fd) (k : Nat) (h : k < l.length) : totF (l.take (k + 1)) = totF (l.take k) + szF (fdAt l k) := by
  rw [takeF_next l k h, totF_app, totF_one]
theorem totF_take (l : List Fd) (k : Nat) : totF (l.take k) ≤ totF l := by
  conv => rhs; rw [← List.take_append_drop k l]
  rw [totF_app]; omega
theorem totF_at (l : List Fd) (k : Nat) (h : k < l.length) : totF (l.take k) + szF (fdAt l k) ≤ totF l := by
  rw [← totF_next l k h]; exact totF_take l _
/-- A row of fields in memory: block b, two cells each. -/
structure RowF (w : World) (b : Nat) (l : List Fd) : Prop where
  dat : ∀ j, j < l.length → w.cell? ⟨b, j * 2, none⟩ = some (.string (fdAt l j).1)
  saf : ∀ j, j < l.length → w.cell? ⟨b, j * 2 + 1, none⟩ = some (.string (fdAt l j).2)
  free : ∀ j, w.frozen? ⟨b, j, none⟩ = false
  lt : b < w.heap.size
theorem RowF.later {w w' : World} {b B : Nat} {l : List Fd} (h : RowF w b l) (k : Below B w w') (hb : b < B) : RowF w' b l :=
  ⟨fun j hj => by rw [k.cell (p := ⟨b, j * 2, none⟩) hb]; exact h.dat j hj, fun j hj => by rw [k.cell (p := ⟨b, j * 2 + 1, none⟩) hb]; exact h.saf j hj, fun j => by rw [k.frozen (p := ⟨b, j, none⟩) hb]; exact h.free j, Nat.lt_of_lt_of_le h.lt k.size⟩
theorem RowF.keep {w w' : World} {b : Nat} {l : List Fd} (h : RowF w b l) (k : Below w.heap.size w w') : RowF w' b l := h.later k h.lt
theorem RowF.other {w : World} {b b' : Nat} {l : List Fd} (h : RowF w b l) (hne : b' ≠ b) (k : Nat) (v : Value) : RowF (w.setCell ⟨b', k, none⟩ v) b l :=
  ⟨fun j hj => by rw [World.cell?_setCell_other _ _ _ _ (by intro hh; injection hh with h1 _; exact hne h1)]; exact h.dat j hj,
   fun j hj => by rw [World.cell?_setCell_other _ _ _ _ (by intro hh; injection hh with h1 _; exact hne h1)]; exact h.saf j hj,
   fun j => by rw [World.frozen?_setCell]; exact h.free j, by simpa [World.setCell] using h.lt⟩
theorem RowF.oth2 {w : World} {b g : Nat} {l : List Fd} (h : RowF w b l) (hne : g ≠ b) (x y : Value) : RowF ((w.setCell ⟨g, 0, none⟩ x).setCell ⟨g, 1, none⟩ y) b l := (h.other hne 0 x).other hne 1 y
theorem RowF.drewN {w : World} {b : Nat} {l : List Fd} (h : RowF w b l) (n : Nat) : RowF (w.drewN n) b l := h.keep (below_drewN' w n)
/-- Number k gets new bytes and a new mark, cell by cell. -/
theorem RowF.set {w : World} {b : Nat} {l : List Fd} (h : RowF w b l) (k : Nat) (d s : ByteArray) (hk : k < l.length) :
    RowF ((w.setCell ⟨b, k * 2, none⟩ (.string d)).setCell ⟨b, k * 2 + 1, none⟩ (.string s)) b (l.set k (d, s)) := by
  have hat : ∀ j, j < l.length → fdAt (l.set k (d, s)) j = if j = k then (d, s) else fdAt l j := by
    intro j hj
    rw [fdAt_get (by rw [List.length_set]; exact hj), List.getElem_set]
    by_cases e : j = k
    · subst e; simp
    · rw [if_neg (Ne.symm e), if_neg e, fdAt_get hj]
  refine ⟨fun j hj => ?_, fun j hj => ?_, fun j => ?_, by simpa [World.setCell] using h.lt⟩
  · rw [List.length_set] at hj
    rw [World.cell?_setCell_other _ _ _ _ (by intro hh; injection hh with _ h2; omega), hat j hj]
    by_cases e : j = k
    · subst e
      rw [World.cell?_setCell_same _ _ _ (h.dat j hj)]
      simp
    · rw [World.cell?_setCell_other _ _ _ _ (by intro hh; injection hh with _ h2; omega), h.dat j hj, if_neg e]
  · rw [List.length_set] at hj
    rw [hat j hj]
    by_cases e : j = k
    · subst e
      rw [World.cell?_setCell_same (u := .string (fdAt l j).2) _ _ _ (by rw [World.cell?_setCell_other _ _ _ _ (by intro hh; injection hh with _ h2; omega)]; exact h.saf j hj)]
      simp
    · rw [World.cell?_setCell_other _ _ _ _ (by intro hh; injection hh with _ h2; omega), World.cell?_setCell_other _ _ _ _ (by intro hh; injection hh with _ h2; omega), h.saf j hj, if_neg e]
  · rw [World.frozen?_setCell, World.frozen?_setCell]
    exact h.free j
theorem Try.infoF : (Try.prog.info? 41).map (fun i => (i.zero, i.size, i.bytes)) = some (some (.agg #[.string ⟨#[]⟩, .string ⟨#[]⟩]), 2, 32) := by kernel_rfl
theorem rowF_made {w w' : World} {n : Nat} (h : w'.ownsRow w.heap.size 41 2 (.slice (some ⟨w.heap.size, 0, none⟩) n n) n (madeCells (Value.agg #[.string ⟨#[]⟩, .string ⟨#[]⟩]).cells (n * 2)).toList) : RowF w' w.heap.size (List.replicate n fd0) := by
  have hat : ∀ j, j < n → fdAt (List.replicate n fd0) j = fd0 := fun j hj => by rw [fdAt_get (by simpa using hj)]; simp
  refine ⟨fun j hj => ?_, fun j hj => ?_, fun j => h.frozenAt j, (h.lt w.heap.size rfl).2⟩
  · rw [List.length_replicate] at hj
    rw [h.cellAt (j * 2) (by omega), hat j hj]
    exact (made2 _ _ n j hj).1
  · rw [List.length_replicate] at hj
    rw [h.cellAt (j * 2 + 1) (by omega), hat j hj]
    exact (made2 _ _ n j hj).2
theorem wp_mkF {ops : Array Oper} {rest : List Oper} {o : Oper} {a : Act} {Q : Exit → Act → World → Prop} {w : World} (hg : o.guard = none) (l c : Operand) (hop : o.op = Op.makeSlice 26 l c)
    (n : Nat) (L C : Int) (hl : a.eval l = .int .i64 L) (hc : a.eval c = .int .i64 C) (hL : L = (n : Int)) (hC : C = (n : Int)) (hn : n ≤ 1048576)
    (hK : ∀ w', RowF w' w.heap.size (List.replicate n fd0) → Below w.heap.size w w' → wpList Try.prog ops Q rest (a.put o.dst (.slice (some ⟨w.heap.size, 0, none⟩) n n)) w') :
    wpList Try.prog ops Q (o :: rest) a w := by
  obtain ⟨i0, hi, hz0, hz1, hz2⟩ := info_parts Try.infoF
  refine wpList_make_full w hg l c 26 hop w.heap.size 41 i0 _ 2 Try.underlying26 hi hz0 hz1 .i64 .i64 L C n hl hc hL hC (by rw [hz2]; omega) (by unfold maxLen; omega) (Nat.le_refl _) ?_
  intro w' hown hgr
  exact hK w' (rowF_made hown) ⟨hgr.os, hgr.tape, hgr.output, hgr.size, fun k hk => hgr.block k hk (by simp)⟩
/-- A slice of fields that came in. -/
def ArgF (w : World) (a : Option Addr) (len : Nat) (l : List Fd) : Prop :=
  l.length = len ∧ (len = 0 ∨ ∃ b off, a = some ⟨b, off, none⟩ ∧ b < w.heap.size ∧ ∀ i, i < len → w.cell? ⟨b, off + i * 2, none⟩ = some (.string (fdAt l i).1) ∧ w.cell? ⟨b, off + i * 2 + 1, none⟩ = some (.string (fdAt l i).2))
theorem ArgF.later {w w' : World} {a : Option Addr} {len : Nat} {l : List Fd} (h : ArgF w a len l) (k : Below w.heap.size w w') : ArgF w' a len l := by
  obtain ⟨h1, h2⟩ := h
  refine ⟨h1, ?_⟩
  rcases h2 with h2 | ⟨b, off, e, hb, hc⟩
  · exact .inl h2
  · exact .inr ⟨b, off, e, Nat.lt_of_lt_of_le hb k.size, fun i hi => ⟨by rw [k.cell (p := ⟨b, off + i * 2, none⟩) hb]; exact (hc i hi).1, by rw [k.cell (p := ⟨b, off + i * 2 + 1, none⟩) hb]; exact (hc i hi).2⟩⟩
set_option maxHeartbeats 400000 in
theorem szField_any (d s : ByteArray) (left : Int) (w : World) (hd : d.size ≤ maxLen) (hs : s.size ≤ maxLen) (h0 : 0 ≤ left) (h1 : left ≤ 1048576) :
    Calls Try.prog 9 #[.agg #[.string d, .string s], .int .i64 left] w fun e w' => e = .returned (.int .i64 (if (szF (d, s) : Int) ≤ left then left - szF (d, s) else -1)) ∧ Below w.heap.size w w' := by
  unfold maxLen at hd hs
  have HB := hideB2 (below_a1 w (.cells #[.string d, .string s] 32))
  have e0 : (szF (d, s) : Int) = (d.size : Int) + (s.size : Int) := by simp [szF]
  rw [e0]
  clear e0
  by_cases h : (d.size : Int) + (s.size : Int) ≤ left
  · rw [if_pos h]
    go_enter Try.func9, Try.ntmps9
    go_wp2
    go_ret
    exact ⟨ret_int (by omega), HB.out⟩
  · rw [if_neg h]
    by_cases h2 : (d.size : Int) ≤ left
    · go_enter Try.func9, Try.ntmps9
      go_wp2
      go_ret
      exact ⟨rfl, HB.out⟩
    · go_enter Try.func9, Try.ntmps9
      go_wp2
      go_ret
      exact ⟨rfl, HB.out⟩
set_option maxHeartbeats 1000000 in
theorem szFieldS_any (a : Option Addr) (len cap : Nat) (l : List Fd) (w : World) (hx : ArgF w a len l) (hl : len ≤ maxLen) (hd : ∀ j, j < len → (fdAt l j).1.size ≤ maxLen ∧ (fdAt l j).2.size ≤ maxLen) :
    Calls Try.prog 4 #[.slice a len cap, .int .i64 1048576] w fun e w' => e = .returned (.int .i64 (if len + totF l ≤ 1048576 then 1048576 - (len : Int) - (totF l : Int) else -1)) ∧ Below w.heap.size w w' := by
  obtain ⟨hlen, hx⟩ := hx
  have HL := hideB2 hlen
  have HX := hideB2 hx
  have HD := hideB2 hd
  clear hlen hx hd
  unfold maxLen at hl
  generalize hR : (if len + totF l ≤ 1048576 then 1048576 - (len : Int) - (totF l : Int) else -1) = R
  have HR := hideB2 hR
  clear hR
  by_cases h0 : len ≤ 1048576
  · go_enter Try.func4, Try.ntmps4
    go_wp2
    go_loopw [1, 5] (fun x i wr => ∃ k : Nat, k ≤ len ∧ i = .int .i64 k ∧ x = .int .i64 (1048576 - (len : Int) - (totF (l.take k) : Int)) ∧ len + totF (l.take k) ≤ 1048576 ∧ Below w.heap.size w wr) (fun _ i _ => len - (intOf i).toNat)
    case atStart => exact ⟨0, Nat.zero_le _, rfl, by simp [totF], by simp [totF]; exact h0, Below.refl _ _⟩
    case round =>
      obtain ⟨k, hk, rfl, rfl, hle, hb⟩ := hrel
      by_cases hlt : k < len
      · rcases HX.out with h0 | ⟨b, off, rfl, hbl, hcs⟩
        · omega
        · obtain ⟨hc0, hc1⟩ := hcs k hlt
          rw [← hb.cell (p := ⟨b, off + k * 2, none⟩) hbl] at hc0
          rw [← hb.cell (p := ⟨b, off + k * 2 + 1, none⟩) hbl] at hc1
          have hnx := totF_next l k (by rw [HL.out]; exact hlt)
          have hat := totF_at l k (by rw [HL.out]; exact hlt)
          have hdk := HD.out k hlt
          generalize hx0 : fdAt l k = x at *
          obtain ⟨d, s⟩ := x
          simp only at hc0 hc1 hnx hat hdk
          have HNX := hideB2 hnx
          have HAT := hideB2 hat
          clear hx0 hcs HX hnx hat
          generalize totF (l.take k) = t at *
          go_wp2_with fail
          refine (szField_any d s _ _ hdk.1 hdk.2 (by omega) (by omega)).mono ?_
          rintro e w2 ⟨rfl, hb2⟩
          have HB2 := hideB2 (hb.trans (hb2.mono hb.size))
          clear hb hb2 hc0 hc1
          by_cases hf : (szF (d, s) : Int) ≤ 1048576 - (len : Int) - (t : Int)
          · rw [if_pos hf]
            go_wp2
            exact ⟨⟨k + 1, by omega, by go_num, by rw [HNX.out]; congr 1; omega, by rw [HNX.out]; omega, HB2.out⟩, by simp [intOf]; omega⟩
          · rw [if_neg hf]
            go_wp2
            go_ret
            exact ⟨ret_int (by rw [← HR.out, if_neg]; have := HAT.out; omega), HB2.out⟩
      · obtain rfl : k = len := by omega
        rw [List.take_of_length_le (by rw [HL.out]; exact Nat.le_refl _)] at hle
        rw [List.take_of_length_le (by rw [HL.out]; exact Nat.le_refl _)]
        have HF := hideB2 (show 1048576 - (k : Int) - (totF l : Int) = R by rw [← HR.out, if_pos hle])
        go_wp2
        go_ret
        exact ⟨ret_int HF.out.symm, hb⟩
  · have hn : ¬ (len + totF l ≤ 1048576) := by omega
    have HF := hideB2 (show -1 = R by rw [← HR.out, if_neg hn])
    go_enter Try.func4, Try.ntmps4
    go_wp2
    go_ret
    exact ⟨ret_int HF.out.symm, Below.refl _ _⟩
set_option maxHeartbeats 400000 in
theorem toField_any (d s : ByteArray) (w : World) :
    Calls Try.prog 15 #[.agg #[.string d, .string s]] w fun e w' => e = .returned (.agg #[.string d, .string s]) ∧ Below w.heap.size w w' := by
  go_enter Try.func15, Try.ntmps15
  go_wp2
  refine bodyPost_ret (v := .agg #[.string d, .string s]) (by simp [results, Try.results15, go_sem]) rfl ⟨rfl, below_a3 w _ _ _⟩
set_option maxHeartbeats 1000000 in
theorem toFieldS_any (a : Option Addr) (len cap : Nat) (l : List Fd) (w : World) (hx : ArgF w a len l) (hl : len ≤ 1048576) :
    Calls Try.prog 6 #[.slice a len cap] w fun e w' => e = .returned (.slice (some ⟨w.heap.size, 0, none⟩) len len) ∧ RowF w' w.heap.size l ∧ Below w.heap.size w w' := by
  obtain ⟨hlen, hx⟩ := hx
  have HL := hideB2 hlen
  have HX := hideB2 hx
  clear hlen hx
  go_enter Try.func6, Try.ntmps6
  go_wp2_with (refine wp_mkF rfl _ _ rfl len _ _ rfl rfl rfl rfl (by omega) ?_; intro W1 hr1 hb1; have HR := hideB2 hr1; have HB := hideB2 hb1; clear hr1 hb1)
  go_loopw [4] (fun i wr => ∃ k : Nat, k ≤ len ∧ i = .int .i64 k ∧ RowF wr w.heap.size (l.take k ++ List.replicate (len - k) fd0) ∧ Below w.heap.size w wr) (fun i _ => len - (intOf i).toNat)
  case atStart => exact ⟨0, Nat.zero_le _, rfl, by simpa using HR.out, HB.out⟩
  case round =>
    obtain ⟨k, hk, rfl, hrow, hb⟩ := hrel
    clear HR HB
    have htl : (l.take k).length = k := by rw [List.length_take, HL.out]; omega
    by_cases hlt : k < len
    · rcases HX.out with h0 | ⟨b, off, rfl, hbl, hcs⟩
      · omega
      · obtain ⟨hc0, hc1⟩ := hcs k hlt
        rw [← hb.cell (p := ⟨b, off + k * 2, none⟩) hbl] at hc0
        rw [← hb.cell (p := ⟨b, off + k * 2 + 1, none⟩) hbl] at hc1
        generalize hx0 : fdAt l k = x at *
        obtain ⟨d, s⟩ := x
        simp only at hc0 hc1
        have hrl : (l.take k ++ List.replicate (len - k) fd0).length = len := by rw [List.length_append, htl, List.length_replicate]; omega
        go_wp2_with fail
        refine (toField_any d s _).mono ?_
        rintro e w2 ⟨rfl, hb2⟩
        have hrow2 := hrow.keep hb2
        have hbw2 := hb.trans (hb2.mono hb.size)
        have hd0 := hrow2.dat k (by rw [hrl]; exact hlt)
        have hd1 := hrow2.saf k (by rw [hrl]; exact hlt)
        have hf0 := hrow2.free (k * 2)
        have hf1 := hrow2.free (k * 2 + 1)
        have R := hrow2.set k d s (by rw [hrl]; exact hlt)
        have e : (l.take k ++ List.replicate (len - k) fd0).set k (d, s) = l.take (k + 1) ++ List.replicate (len - (k + 1)) fd0 := by
          have hkx : k < l.length := by rw [HL.out]; exact hlt
          rw [List.set_append_right _ _ (by rw [htl]; exact Nat.le_refl _), htl, Nat.sub_self, show len - k = (len - (k + 1)) + 1 by omega, List.replicate_succ, List.set_cons_zero, takeF_next l k hkx, List.append_assoc, hx0]
          rfl
        rw [e] at R
        have HR := hideB2 R
        have HRB := hideB2 ((hbw2.setCell (p := ⟨w.heap.size, k * 2, none⟩) (by simp) (.string d)).setCell (p := ⟨w.heap.size, k * 2 + 1, none⟩) (by simp) (.string s))
        clear R e hrow hb hrl htl hcs HX hrow2 hbw2 hx0 hc0 hc1 hb2
        generalize (fdAt (l.take k ++ List.replicate (len - k) fd0) k).1 = y0 at *
        generalize (fdAt (l.take k ++ List.replicate (len - k) fd0) k).2 = y1 at *
        go_wp2
        exact ⟨⟨k + 1, by omega, by go_num, HR.out, HRB.out⟩, by simp [intOf]; omega⟩
    · obtain rfl : k = len := by omega
      rw [Nat.sub_self, List.replicate_zero, List.append_nil, List.take_of_length_le (by rw [HL.out]; exact Nat.le_refl _)] at hrow
      go_wp2
      go_ret
      exact ⟨rfl, hrow, hb⟩
set_option maxHeartbeats 400000 in
theorem eqField_same (d s : ByteArray) (w : World) :
    Calls Try.prog 21 #[.agg #[.string d, .string s], .agg #[.string d, .string s]] w fun e w' => e = .returned (.bool true) ∧ Below w.heap.size w w' := by
  go_enter Try.func21, Try.ntmps21
  go_wp2
  go_ret
  exact ⟨rfl, below_a2 w _ _⟩
/-- A slice of fields: nil, or a row. -/
def SlF (w : World) (v : Value) (l : List Fd) : Prop := (v = .slice none 0 0 ∧ l = []) ∨ ∃ b cap, v = .slice (some ⟨b, 0, none⟩) l.length cap ∧ RowF w b l
theorem SlF.later {w w' : World} {v : Value} {l : List Fd} (h : SlF w v l) (k : Below w.heap.size w w') : SlF w' v l := by
  rcases h with h | ⟨b, cap, e, hr⟩
  · exact .inl h
  · exact .inr ⟨b, cap, e, hr.keep k⟩
theorem RowF.sl {w : World} {b n : Nat} {l : List Fd} (h : RowF w b l) (hn : l.length = n) (cap : Nat) : SlF w (.slice (some ⟨b, 0, none⟩) n cap) l := .inr ⟨b, cap, by rw [hn], h⟩
theorem SlF.one {w : World} {v : Value} {l : List Fd} (h : SlF w v l) : v.oneCell' = true := by
  rcases h with ⟨rfl, _⟩ | ⟨b, cap, rfl, _⟩ <;> rfl
theorem SlF.form {w : World} {v : Value} {l : List Fd} (h : SlF w v l) : ∃ a c, v = .slice a l.length c := by
  rcases h with ⟨rfl, rfl⟩ | ⟨b, cap, rfl, _⟩
  · exact ⟨none, 0, rfl⟩
  · exact ⟨_, _, rfl⟩
theorem SlF.row {w : World} {a : Option Addr} {n c : Nat} {l : List Fd} (h : SlF w (.slice a n c) l) (hl : 0 < l.length) : ∃ b, a = some ⟨b, 0, none⟩ ∧ RowF w b l := by
  rcases h with ⟨_, rfl⟩ | ⟨b, cap, e, hr⟩
  · simp at hl
  · injection e with e1; exact ⟨b, e1, hr⟩
set_option maxHeartbeats 1000000 in
theorem eqFieldS_same (va vb : Value) (l : List Fd) (w : World) (ha : SlF w va l) (hb : SlF w vb l) (hm : l.length ≤ 1048576) :
    Calls Try.prog 8 #[va, vb] w fun e w' => e = .returned (.bool true) ∧ Below w.heap.size w w' := by
  obtain ⟨a1, c1, rfl⟩ := ha.form
  obtain ⟨a2, c2, rfl⟩ := hb.form
  have HA := hideB2 ha
  have HB := hideB2 hb
  clear ha hb
  generalize hn : l.length = n at *
  have HN := hideB2 hn
  clear hn
  go_enter Try.func8, Try.ntmps8
  go_wp2
  go_loopw [5] (fun i wr => ∃ k : Nat, k ≤ n ∧ i = .int .i64 k ∧ Below w.heap.size w wr) (fun i _ => n - (intOf i).toNat)
  case atStart => exact ⟨0, Nat.zero_le _, rfl, Below.refl _ _⟩
  case round =>
    obtain ⟨k, hk, rfl, hb⟩ := hrel
    by_cases hlt : k < n
    · obtain ⟨b1, rfl, hr1⟩ := HA.out.row (by rw [HN.out]; omega)
      obtain ⟨b2, rfl, hr2⟩ := HB.out.row (by rw [HN.out]; omega)
      have p0 := (hr1.keep hb).dat k (by rw [HN.out]; exact hlt)
      have p1 := (hr1.keep hb).saf k (by rw [HN.out]; exact hlt)
      have q0 := (hr2.keep hb).dat k (by rw [HN.out]; exact hlt)
      have q1 := (hr2.keep hb).saf k (by rw [HN.out]; exact hlt)
      clear hr1 hr2
      generalize fdAt l k = x at *
      obtain ⟨d, s⟩ := x
      simp only at p0 p1 q0 q1
      have HBW := hideB2 hb
      clear hb
      go_wp2
      go_region_with (go_at_call 21; refine (eqField_same _ _ _).mono ?_; rintro e w2 ⟨rfl, hb2⟩)
      all_goals
        have HB3 := hideB2 (HBW.out.drew.trans (hb2.mono HBW.out.drew.size))
        clear hb2
        go_wp2
        exact ⟨⟨k + 1, by omega, by go_num, HB3.out⟩, by simp [intOf]; omega⟩
    · go_wp2
      go_ret
      exact ⟨rfl, hb⟩
end Go.Proofs.Ytaelopjalfapgab
