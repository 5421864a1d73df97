/-
  What the exact laws do with lists of ints: a copy, a comparison, marks.
-/
import Derived.Test.YtohdfdbpmmeidabD5
namespace Go.Proofs.Ytohdfdbpmmeidab
set_option linter.unusedVariables false
set_option linter.unusedSimpArgs false
open Go.RowKit
/-- A slice of ints that came in: what it holds. -/
def ArgZ (w : World) (a : Option Addr) (len : Nat) (xs : List Int) : Prop :=
  xs.length = len ∧ (len = 0 ∨ ∃ b off, a = some ⟨b, off, none⟩ ∧ b < w.heap.size ∧ ∀ i, i < len → w.cell? ⟨b, off + i, none⟩ = some (.int .i64 (xs.getD i 0)))
theorem ArgZ.later {w w' : World} {a : Option Addr} {len : Nat} {xs : List Int} (h : ArgZ w a len xs) (k : Below w.heap.size w w') : ArgZ w' a len xs := by
  obtain ⟨h1, h2⟩ := h
  refine ⟨h1, ?_⟩
  rcases h2 with h2 | ⟨b, off, e, hb, hc⟩
  · exact .inl h2
  · exact .inr ⟨b, off, e, Nat.lt_of_lt_of_le hb k.size, fun i hi => by rw [k.cell (p := ⟨b, off + i, none⟩) hb]; exact hc i hi⟩
/-- A slice of ints of one's own, or nil. -/
def SlZ (w : World) (v : Value) (xs : List Int) : Prop := (v = .slice none 0 0 ∧ xs = []) ∨ ∃ b cap, v = .slice (some ⟨b, 0, none⟩) xs.length cap ∧ RowZ w b xs
theorem SlZ.later {w w' : World} {v : Value} {xs : List Int} (h : SlZ w v xs) (k : Below w.heap.size w w') : SlZ w' v xs := by
  rcases h with h | ⟨b, cap, e, hr⟩
  · exact .inl h
  · exact .inr ⟨b, cap, e, hr.keep k⟩
theorem SlZ.drewN {w : World} {v : Value} {xs : List Int} (h : SlZ w v xs) (n : Nat) : SlZ (w.drewN n) v xs := h.later ⟨rfl, rfl, rfl, Nat.le_refl _, fun _ _ => rfl⟩
theorem RowZ.drewN {w : World} {b : Nat} {xs : List Int} (h : RowZ w b xs) (n : Nat) : RowZ (w.drewN n) b xs := h.keep ⟨rfl, rfl, rfl, Nat.le_refl _, fun _ _ => rfl⟩
theorem RowZ.sl {w : World} {b n : Nat} {xs : List Int} (h : RowZ w b xs) (hn : xs.length = n) (cap : Nat) : SlZ w (.slice (some ⟨b, 0, none⟩) n cap) xs := .inr ⟨b, cap, by rw [hn], h⟩
/-- All blocks but p stand as they stood. -/
def Kb (p : Nat) (w w' : World) : Prop := w.grownBy w' (some p)
theorem Kb.refl (p : Nat) (w : World) : Kb p w w := ⟨rfl, rfl, rfl, Nat.le_refl _, fun _ _ _ => rfl⟩
theorem Kb.setCell {p : Nat} {a w : World} (h : Kb p a w) (off : Nat) (u : Value) : Kb p a (w.setCell ⟨p, off, none⟩ u) :=
  World.grownBy.trans h ⟨rfl, rfl, rfl, by simp [World.setCell], fun k _ hne => Below.heap_setCell _ _ _ _ (fun e => hne (by simp at e; rw [e]))⟩
theorem Kb.below {p : Nat} {w w' : World} (h : Kb p w w') {B : Nat} (hB : B ≤ p) (hp : p ≤ w.heap.size) : Below B w w' :=
  ⟨h.os, h.tape, h.output, World.grownBy.size h, fun k hk => h.block k (by omega) (fun e => by injection e with e; omega)⟩
theorem RowZ.kb {p : Nat} {w w' : World} {b : Nat} {xs : List Int} (h : RowZ w b xs) (k : Kb p w w') (hne : b ≠ p) : RowZ w' b xs := by
  have hb : w'.heap[b]? = w.heap[b]? := k.block b h.lt (fun e => by injection e with e; omega)
  refine ⟨fun j hj => ?_, fun j => ?_, Nat.lt_of_lt_of_le h.lt (World.grownBy.size k)⟩
  · exact (World.cell?_of_block (w := w) hb).trans (h.cell j hj)
  · have hf := h.free j
    unfold World.frozen? at *
    rw [hb]; exact hf
/-- The marks from k on. -/
def marks (k : Int) : Nat → List Int
  | 0 => []
  | n + 1 => k :: marks (k + 1) n
theorem marks_len (k : Int) (n : Nat) : (marks k n).length = n := by
  induction n generalizing k with
  | zero => rfl
  | succ n ih => simp [marks, ih]
theorem marks_at (k : Int) (n j : Nat) (h : j < n) : (marks k n).getD j 0 = k + j := by
  induction n generalizing k j with
  | zero => omega
  | succ n ih =>
    cases j with
    | zero => simp [marks, List.getD]
    | succ j =>
      rw [marks, List.getD_cons_succ, ih (k + 1) j (by omega)]
      omega
theorem marks_snoc (k : Int) (n : Nat) : marks k (n + 1) = marks k n ++ [k + n] := by
  induction n generalizing k with
  | zero => simp [marks]
  | succ n ih =>
    rw [marks, ih, marks]
    simp
    omega
theorem mark_row (k : Int) (xs : List Int) (j : Nat) (h : j < xs.length) : marks k (j + 1) ++ xs.drop (j + 1) = (marks k j ++ xs.drop j).set j (k + j) := by
  rw [marks_snoc, List.set_append_right _ _ (by rw [marks_len]; exact Nat.le_refl _), marks_len, Nat.sub_self, List.drop_eq_getElem_cons h, List.set_cons_zero, List.append_assoc]
  rfl
set_option maxHeartbeats 1000000 in
theorem toIntS_any (a : Option Addr) (len cap : Nat) (xs : List Int) (w : World) (hx : ArgZ w a len xs) (hl : len ≤ 1048576) :
    Calls Try.prog 26 #[.slice a len cap] w fun e w' => e = .returned (.slice (some ⟨w.heap.size, 0, none⟩) len len) ∧ RowZ w' w.heap.size xs ∧ Below w.heap.size w w' := by
  obtain ⟨hlen, hx⟩ := hx
  have HL := hideB2 hlen
  have HX := hideB2 hx
  clear hlen hx
  go_enter Try.func26, Try.ntmps26
  go_wp2_with (refine wp_mkI rfl _ _ rfl len _ _ rfl rfl rfl rfl (by omega) ?_; intro W1 hr1 hb1; have HR := hideB2 hr1; have HB := hideB2 hb1; clear hr1 hb1)
  go_loopw [4] (fun i wr => ∃ k : Nat, k ≤ len ∧ i = .int .i64 k ∧ RowZ wr w.heap.size (xs.take k ++ List.replicate (len - k) 0) ∧ Below w.heap.size w wr) (fun i _ => len - (intOf i).toNat)
  case atStart => exact ⟨0, Nat.zero_le _, rfl, by have h := HR.out.z; have e : nz (List.replicate len 0) = xs.take 0 ++ List.replicate (len - 0) 0 := (by simp [nz]); rw [e] at h; exact h, HB.out⟩
  case round =>
    obtain ⟨k, hk, rfl, hrow, hb⟩ := hrel
    clear HR HB
    have htl : (xs.take k).length = k := by rw [List.length_take, HL.out]; omega
    by_cases hlt : k < len
    · rcases HX.out with h0 | ⟨b, off, rfl, hbl, hcs⟩
      · omega
      · have hc := hcs k hlt
        rw [← hb.cell (p := ⟨b, off + k, none⟩) hbl] at hc
        have hrl : (xs.take k ++ List.replicate (len - k) (0 : Int)).length = len := by rw [List.length_append, htl, List.length_replicate]; omega
        have hd := hrow.cell k (by rw [hrl]; exact hlt)
        have hf := hrow.free k
        have R := hrow.set k (xs.getD k 0) (by rw [hrl]; exact hlt)
        have e : (xs.take k ++ List.replicate (len - k) (0 : Int)).set k (xs.getD k 0) = xs.take (k + 1) ++ List.replicate (len - (k + 1)) 0 := by
          have hkx : k < xs.length := by rw [HL.out]; exact hlt
          rw [List.set_append_right _ _ (by rw [htl]; exact Nat.le_refl _), htl, Nat.sub_self, show len - k = (len - (k + 1)) + 1 by omega, List.replicate_succ, List.set_cons_zero, List.take_succ_eq_append_getElem hkx, List.getD, List.getElem?_eq_getElem hkx, List.append_assoc]
          rfl
        rw [e] at R
        have HR := hideB2 R
        have HRB := hideB2 (hb.setCell (p := ⟨w.heap.size, k, none⟩) (by simp) (.int .i64 (xs.getD k 0)))
        clear R e hrow hb hrl htl hcs HX
        generalize xs.getD k 0 = x at *
        generalize (xs.take k ++ List.replicate (len - k) (0 : Int)).getD k 0 = y at *
        go_wp2
        exact ⟨⟨k + 1, by omega, by go_num, HR.out, HRB.out⟩, by simp [intOf]; omega⟩
    · obtain rfl : k = len := by omega
      rw [Nat.sub_self, List.replicate_zero, List.append_nil, List.take_of_length_le (by rw [HL.out]; exact Nat.le_refl _)] at hrow
      go_wp2
      go_ret
      exact ⟨rfl, hrow, hb⟩
set_option maxHeartbeats 1000000 in
theorem eqIntS_same (va vb : Value) (xs : List Int) (w : World) (ha : SlZ w va xs) (hb : SlZ w vb xs) (hm : xs.length ≤ 1048576) :
    Calls Try.prog 22 #[va, vb] w fun e w' => e = .returned (.bool true) ∧ ∃ m, w' = w.drewN m := by
  rcases ha with ⟨rfl, rfl⟩ | ⟨b1, cap1, rfl, hr1⟩
  · rcases hb with ⟨rfl, _⟩ | ⟨b2, cap2, rfl, hr2⟩
    · go_enter Try.func22, Try.ntmps22
      go_wp2
      go_loop [5] (fun i => i = .int .i64 0) (fun _ => 0)
      case atStart => rfl
      case round =>
        subst hrel
        go_wp2
        go_ret
        exact ⟨rfl, 0, rfl⟩
    · rw [List.length_nil]
      go_enter Try.func22, Try.ntmps22
      go_wp2
      go_loop [5] (fun i => i = .int .i64 0) (fun _ => 0)
      case atStart => rfl
      case round =>
        subst hrel
        go_wp2
        go_ret
        exact ⟨rfl, 0, rfl⟩
  · rcases hb with ⟨rfl, rfl⟩ | ⟨b2, cap2, rfl, hr2⟩
    · rw [List.length_nil]
      go_enter Try.func22, Try.ntmps22
      go_wp2
      go_loop [5] (fun i => i = .int .i64 0) (fun _ => 0)
      case atStart => rfl
      case round =>
        subst hrel
        go_wp2
        go_ret
        exact ⟨rfl, 0, rfl⟩
    · have H1 := hideB2 hr1
      have H2 := hideB2 hr2
      clear hr1 hr2
      generalize hn : xs.length = n at *
      have HN := hideB2 hn
      clear hn
      go_enter Try.func22, Try.ntmps22
      go_wp2
      go_loopw [5] (fun i wr => ∃ k : Nat, k ≤ n ∧ i = .int .i64 k ∧ ∃ m, wr = w.drewN m) (fun i _ => n - (intOf i).toNat)
      case atStart => exact ⟨0, Nat.zero_le _, rfl, 0, rfl⟩
      case round =>
        obtain ⟨k, hk, rfl, m, rfl⟩ := hrel
        by_cases hlt : k < n
        · have c1 := H1.out.cell k (by rw [HN.out]; exact hlt)
          have c2 := H2.out.cell k (by rw [HN.out]; exact hlt)
          generalize xs.getD k 0 = x at *
          go_wp2
          refine wp_region_quiet_lit ?_ ?_ ?_
          · kernel_rfl
          · kernel_rfl
          repeat (go_big_quiet_step (fail))
          refine wpQuiet_nil ?_
          rintro _ ⟨nq, rfl⟩
          go_wp2
          exact ⟨⟨k + 1, by omega, by go_num, _, rfl⟩, by simp [intOf]; omega⟩
        · obtain rfl : k = n := by omega
          go_wp2
          go_ret
          exact ⟨rfl, _, rfl⟩
set_option maxHeartbeats 1000000 in
theorem markIntS_row (b n cap : Nat) (xs : List Int) (w : World) (hr : RowZ w b xs) (hl : xs.length = n) (hn : n ≤ 1048576) :
    Calls Try.prog 23 #[.slice (some ⟨b, 0, none⟩) n cap, .int .i64 1] w fun e w' => e = .returned (.int .i64 (1 + (n : Int))) ∧ RowZ w' b (marks 1 n) ∧ Kb b w w' := by
  have HL := hideB2 hl
  have HR := hideB2 hr
  clear hl hr
  go_enter Try.func23, Try.ntmps23
  go_wp2
  go_loopw [1, 5] (fun kv i wr => ∃ k : Nat, k ≤ n ∧ i = .int .i64 k ∧ kv = .int .i64 (1 + (k : Int)) ∧ RowZ wr b (marks 1 k ++ xs.drop k) ∧ Kb b w wr) (fun _ i _ => n - (intOf i).toNat)
  case atStart => exact ⟨0, Nat.zero_le _, rfl, rfl, HR.out, Kb.refl _ _⟩
  case round =>
    obtain ⟨k, hk, rfl, rfl, hrow, hkb⟩ := hrel
    clear HR
    by_cases hlt : k < n
    · have hkx : k < xs.length := by rw [HL.out]; exact hlt
      have hrl : (marks 1 k ++ xs.drop k).length = n := by rw [List.length_append, marks_len, List.length_drop, HL.out]; omega
      have hd := hrow.cell k (by rw [hrl]; exact hlt)
      have hf := hrow.free k
      have R := hrow.set k (1 + (k : Int)) (by rw [hrl]; exact hlt)
      rw [← mark_row 1 xs k hkx] at R
      have HR := hideB2 R
      have HK := hideB2 (hkb.setCell k (.int .i64 (1 + (k : Int))))
      clear R hrow hkb hrl hkx
      generalize (marks 1 k ++ xs.drop k).getD k 0 = y at *
      go_wp2
      refine ⟨⟨k + 1, by omega, by go_num, congrArg (Value.int .i64) (by omega), HR.out, HK.out⟩, by simp [intOf]; omega⟩
    · obtain rfl : k = n := by omega
      rw [List.drop_eq_nil_of_le (by rw [HL.out]; exact Nat.le_refl _), List.append_nil] at hrow
      go_wp2
      go_ret
      exact ⟨rfl, hrow, hkb⟩
set_option maxHeartbeats 1000000 in
theorem markIntS_nil (w : World) :
    Calls Try.prog 23 #[.slice none 0 0, .int .i64 1] w fun e w' => e = .returned (.int .i64 1) ∧ w' = w := by
  go_enter Try.func23, Try.ntmps23
  go_wp2
  go_loop [1, 5] (fun kv i => i = .int .i64 0 ∧ kv = .int .i64 1) (fun _ _ => 0)
  case atStart => exact ⟨rfl, rfl⟩
  case round =>
    obtain ⟨rfl, rfl⟩ := hrel
    go_wp2
    go_ret
    exact ⟨rfl, rfl⟩
set_option maxHeartbeats 1000000 in
theorem heldIntS_row (b n cap : Nat) (w : World) (hr : RowZ w b (marks 1 n)) (hn : n ≤ 1048576) :
    Calls Try.prog 24 #[.slice (some ⟨b, 0, none⟩) n cap, .int .i64 1] w fun e w' => e = .returned (.int .i64 (1 + (n : Int))) ∧ w' = w := by
  have HR := hideB2 hr
  clear hr
  go_enter Try.func24, Try.ntmps24
  go_wp2
  go_loop [1, 5] (fun kv i => ∃ k : Nat, k ≤ n ∧ i = .int .i64 k ∧ kv = .int .i64 (1 + (k : Int))) (fun _ i => n - (intOf i).toNat)
  case atStart => exact ⟨0, Nat.zero_le _, rfl, rfl⟩
  case round =>
    obtain ⟨k, hk, rfl, rfl⟩ := hrel
    by_cases hlt : k < n
    · have hc := HR.out.cell k (by rw [marks_len]; exact hlt)
      rw [marks_at 1 n k hlt] at hc
      go_wp2
      refine ⟨⟨k + 1, by omega, by go_num, congrArg (Value.int .i64) (by omega)⟩, by simp [intOf]; omega⟩
    · obtain rfl : k = n := by omega
      go_wp2
      go_ret
      exact ⟨rfl, rfl⟩
set_option maxHeartbeats 1000000 in
theorem heldIntS_nil (w : World) :
    Calls Try.prog 24 #[.slice none 0 0, .int .i64 1] w fun e w' => e = .returned (.int .i64 1) ∧ w' = w := by
  go_enter Try.func24, Try.ntmps24
  go_wp2
  go_loop [1, 5] (fun kv i => i = .int .i64 0 ∧ kv = .int .i64 1) (fun _ _ => 0)
  case atStart => exact ⟨rfl, rfl⟩
  case round =>
    obtain ⟨rfl, rfl⟩ := hrel
    go_wp2
    go_ret
    exact ⟨rfl, rfl⟩
end Go.Proofs.Ytohdfdbpmmeidab
