/-
  The walks over chapter 3: the eighty words (spec).
-/
import Derived.Test.YtknpolmenfdheaaD2
import Derived.OwnWalk
import Derived.Laws.OwnMore
import Derived.Deep.RegionWith
import Derived.Test.YtknpolmenfdheaaQT
namespace Go.Proofs.Ytknpolmenfdheaa
set_option linter.unusedVariables false
set_option linter.unusedSimpArgs false
open Go.RowKit
/-- Words as cells of 64 bits. -/
def cI (l : List Nat) : Array Value := (l.map fun (x : Nat) => Value.int .i64 (x : Int)).toArray
theorem cI_at (l : List Nat) (j : Nat) (h : j < l.length) : (cI l)[j]? = some (.int .i64 ((l.getD j 0 : Nat) : Int)) := by
  simp [cI, List.getD, h]
theorem cI_set (l : List Nat) (j v : Nat) : (cI l).setIfInBounds j (.int .i64 (v : Int)) = cI (l.set j v) := by
  simp [cI, List.map_set]
theorem cI_size (l : List Nat) : (cI l).size = l.length := by simp [cI]
/-- A row of ints of one's own: block, cells. -/
structure RowN (w : World) (b : Nat) (l : List Nat) : Prop where
  cell : ∀ j, j < l.length → w.cell? ⟨b, j, none⟩ = some (.int .i64 ((l.getD j 0 : Nat) : Int))
  free : ∀ j, w.frozen? ⟨b, j, none⟩ = false
  lt : b < w.heap.size
theorem RowN.set {w : World} {b : Nat} {l : List Nat} (h : RowN w b l) (k v : Nat) (hk : k < l.length) : RowN (w.setCell ⟨b, k, none⟩ (.int .i64 (v : Int))) b (l.set k v) := by
  refine ⟨fun j hj => ?_, fun j => ?_, by simpa [World.setCell] using h.lt⟩
  · rw [List.length_set] at hj
    by_cases e : j = k
    · subst e
      rw [World.cell?_setCell_same _ _ _ (h.cell j hj)]
      simp [List.getD, hk]
    · rw [World.cell?_setCell_other _ _ _ _ (by intro hh; apply e; injection hh with _ h2; exact h2.symm), h.cell j hj]
      simp [List.getD, Ne.symm e]
  · rw [World.frozen?_setCell]
    exact h.free j
theorem RowN.later {w w' : World} {b B : Nat} {l : List Nat} (h : RowN w b l) (k : Below B w w') (hb : b < B) : RowN w' b l :=
  ⟨fun j hj => by rw [k.cell (p := ⟨b, j, none⟩) hb]; exact h.cell j hj, fun j => by rw [k.frozen (p := ⟨b, j, none⟩) hb]; exact h.free j, Nat.lt_of_lt_of_le h.lt k.size⟩
theorem RowN.drew {w : World} {b : Nat} {l : List Nat} (h : RowN w b l) : RowN w.drew b l := h.later (⟨rfl, rfl, rfl, Nat.le_refl _, fun _ _ => rfl⟩ : Below w.heap.size w w.drew) h.lt
theorem RowN.drewN {w : World} {b : Nat} {l : List Nat} (h : RowN w b l) (n : Nat) : RowN (w.drewN n) b l := h.later (⟨rfl, rfl, rfl, Nat.le_refl _, fun _ _ => rfl⟩ : Below w.heap.size w (w.drewN n)) h.lt
theorem Try.infoI : (Try.prog.info? 3).map (fun i => (i.zero, i.size, i.bytes)) = some (some (.int .i64 0), 1, 8) := by kernel_rfl
theorem rowN_made {w w' : World} {n : Nat} (h : w'.ownsRow w.heap.size 3 1 (.slice (some ⟨w.heap.size, 0, none⟩) n n) n (List.replicate n (.int .i64 0))) : RowN w' w.heap.size (List.replicate n 0) := by
  refine ⟨fun j hj => ?_, fun j => h.frozenAt j, (h.lt w.heap.size rfl).2⟩
  rw [List.length_replicate] at hj
  have := h.cells (g := w.heap.size) rfl j (.int .i64 0) (by simp [hj])
  rw [Addr.add_lit, Nat.zero_add] at this
  rw [this]; simp [List.getD, hj]
theorem wp_mkI {ops : Array Oper} {rest : List Oper} {o : Oper} {a : Act} {Q : Exit → Act → World → Prop} {w : World} (hg : o.guard = none) (l c : Operand) (hop : o.op = Op.makeSlice 25 l c)
    (n : Nat) (L C : Int) (hl : a.eval l = .int .i64 L) (hc : a.eval c = .int .i64 C) (hL : L = (n : Int)) (hC : C = (n : Int)) (hn : n ≤ 1048576)
    (hK : ∀ w', RowN w' w.heap.size (List.replicate n 0) → Below w.heap.size w w' → wpList Try.prog ops Q rest (a.put o.dst (.slice (some ⟨w.heap.size, 0, none⟩) n n)) w') :
    wpList Try.prog ops Q (o :: rest) a w := by
  obtain ⟨i0, hi, hz0, hz1, hz2⟩ := info_parts Try.infoI
  refine wpList_make_full w hg l c 25 hop w.heap.size 3 i0 (.int .i64 0) 1 Try.underlying25 hi hz0 hz1 .i64 .i64 L C n hl hc hL hC (by rw [hz2]; omega) (by unfold maxLen; omega) (Nat.le_refl _) ?_
  intro w' hown hgr
  refine hK w' (rowN_made ?_) ⟨hgr.os, hgr.tape, hgr.output, hgr.size, fun k hk => hgr.block k hk (by simp)⟩
  have e : (madeCells (Value.int .i64 0).cells (n * 1)).toList = List.replicate n (.int .i64 0) := by
    rw [Nat.mul_one]; exact toList_madeCells_one _ _
  rw [e] at hown
  exact hown
theorem be4_i64 (b0 b1 b2 b3 : Nat) (h0 : b0 < 256) (h1 : b1 < 256) (h2 : b2 < 256) (h3 : b3 < 256) :
    bits .or .i64 (bits .or .i64 (bits .or .i64 ((b0 : Int) * 16777216) ((b1 : Int) * 65536)) ((b2 : Int) * 256)) (b3 : Int) = (((((0 * 256 + b0) * 256 + b1) * 256 + b2) * 256 + b3 : Nat) : Int) := by
  have p24 : (2 : Nat) ^ 24 = 16777216 := by decide
  have p16 : (2 : Nat) ^ 16 = 65536 := by decide
  have p8 : (2 : Nat) ^ 8 = 256 := by decide
  have e1 := i64_or_nat (b0 * 16777216) (b1 * 65536) (by omega) (by omega)
  rw [nat_join 24 (b0 * 16777216) (b1 * 65536) (by rw [p24]; omega) (by rw [p24]; omega)] at e1
  have e2 := i64_or_nat (b0 * 16777216 + b1 * 65536) (b2 * 256) (by omega) (by omega)
  rw [nat_join 16 _ (b2 * 256) (by rw [p16]; omega) (by rw [p16]; omega)] at e2
  have e3 := i64_or_nat (b0 * 16777216 + b1 * 65536 + b2 * 256) b3 (by omega) (by omega)
  rw [nat_join 8 _ b3 (by rw [p8]; omega) (by rw [p8]; omega)] at e3
  have c1 : ((b0 * 16777216 : Nat) : Int) = (b0 : Int) * 16777216 := by simp
  have c2 : ((b1 * 65536 : Nat) : Int) = (b1 : Int) * 65536 := by simp
  have c3 : ((b2 * 256 : Nat) : Int) = (b2 : Int) * 256 := by simp
  rw [← c1, ← c2, ← c3, e1, e2, e3]
  refine congrArg Int.ofNat ?_
  omega
theorem be4_bytes (l : List UInt8) (t : Nat) : be4 l t = (((0 * 256 + byteAt l (4 * t)) * 256 + byteAt l (4 * t + 1)) * 256 + byteAt l (4 * t + 2)) * 256 + byteAt l (4 * t + 3) := rfl
theorem byteAt_str (s : ByteArray) (k : Nat) (h : k < s.size) : (s[k].toNat : Int) = ((byteAt s.data.toList k : Nat) : Int) := by
  have h' : k < s.data.toList.length := by rw [len_data]; exact h
  unfold byteAt
  rw [List.getD, List.getElem?_eq_getElem h']
  rfl
theorem four_at (s : ByteArray) (t : Nat) (h : 4 * t + 3 < s.size) : ∃ n0 n1 n2 n3 : Nat, 4 * (t : Int) = n0 ∧ (n0 : Int) + 1 = n1 ∧ (n0 : Int) + 2 = n2 ∧ (n0 : Int) + 3 = n3 ∧ n0 < s.size ∧ n1 < s.size ∧ n2 < s.size ∧ n3 < s.size ∧
    (∀ h, ((s[n0]'h).toNat : Int) = ((byteAt s.data.toList (4 * t) : Nat) : Int)) ∧ (∀ h, ((s[n1]'h).toNat : Int) = ((byteAt s.data.toList (4 * t + 1) : Nat) : Int)) ∧ (∀ h, ((s[n2]'h).toNat : Int) = ((byteAt s.data.toList (4 * t + 2) : Nat) : Int)) ∧ (∀ h, ((s[n3]'h).toNat : Int) = ((byteAt s.data.toList (4 * t + 3) : Nat) : Int)) :=
  ⟨4 * t, 4 * t + 1, 4 * t + 2, 4 * t + 3, by omega, by omega, by omega, by omega, by omega, by omega, by omega, h, fun h => byteAt_str s _ h, fun h => byteAt_str s _ h, fun h => byteAt_str s _ h, fun h => byteAt_str s _ h⟩
theorem sSchedule_no (s : ByteArray) (w : World) (hs : s.size ≤ maxLen) (hl : s.size ≠ 64) :
    Calls Try.prog 45 #[.string s] w fun e w' => e = .returned (.slice none 0 0) ∧ w' = w := by
  unfold maxLen at hs
  have hne : ((s.size : Int) != 64) = true := by rw [bne_iff_ne]; omega
  go_enter Try.func45, Try.ntmps45
  go_wp2
  go_ret
  exact ⟨rfl, rfl⟩
set_option maxHeartbeats 4000000 in
theorem sSchedule_any (s : ByteArray) (w : World) (hl : s.size = 64) :
    Calls Try.prog 45 #[.string s] w fun e w' => e = .returned (.slice (some ⟨w.heap.size, 0, none⟩) 80 80) ∧ RowN w' w.heap.size (schL s.data.toList 80) ∧ Below w.heap.size w w' := by
  have hne : ((s.size : Int) != 64) = false := by rw [bne_eq_false_iff_eq]; omega
  have hsz : s.size ≤ 64 := by omega
  have hsz2 : 64 ≤ s.size := by omega
  have HL := hideB2 hl
  clear hl
  go_enter Try.func45, Try.ntmps45
  go_wp2_with (refine wp_mkI rfl _ _ rfl 80 _ _ rfl rfl rfl rfl (by omega) ?_; intro W1 hr1 hb1; have HR := hideB2 hr1; have HB := hideB2 hb1; clear hr1 hb1)
  go_loopw [4] (fun i wr => ∃ t : Nat, t ≤ 80 ∧ i = .int .i64 t ∧ RowN wr w.heap.size (fillR (schL s.data.toList t) 80) ∧ Below w.heap.size w wr) (fun i _ => 80 - (intOf i).toNat)
  case atStart => exact ⟨0, Nat.zero_le _, rfl, by rw [show schL s.data.toList 0 = [] from rfl, fillR_nil]; exact HR.out, HB.out⟩
  case round =>
    obtain ⟨t, ht, rfl, hrow, hb⟩ := hrel
    clear HR HB
    by_cases hlt : t < 80
    · have hlen : (fillR (schL s.data.toList t) 80).length = 80 := fillR_len _ _ (by rw [schL_len]; omega)
      have hct := hrow.cell t (by rw [hlen]; exact hlt)
      have hf := hrow.free t
      have hs1 : schL s.data.toList (t + 1) = schL s.data.toList t ++ [nxt s.data.toList t (schL s.data.toList t)] := rfl
      have hset := fillR_set (schL s.data.toList t) 80 (nxt s.data.toList t (schL s.data.toList t)) (by rw [schL_len]; exact hlt)
      rw [schL_len, ← hs1] at hset
      have R := hrow.set t (nxt s.data.toList t (schL s.data.toList t)) (by rw [hlen]; exact hlt)
      rw [← hset] at R
      have RB := hb.setCell (p := ⟨w.heap.size, t, none⟩) (by simp) (.int .i64 ((nxt s.data.toList t (schL s.data.toList t) : Nat) : Int))
      by_cases h16 : t < 16
      · have hn : nxt s.data.toList t (schL s.data.toList t) = be4 s.data.toList t := by unfold nxt; rw [if_pos h16]
        rw [hn, be4_bytes] at R RB
        obtain ⟨n0, n1, n2, n3, i0, i1, i2, i3, q0, q1, q2, q3, b0, b1, b2, b3⟩ := four_at s t (by omega)
        have l0 := byteAt_lt s.data.toList (4 * t)
        have l1 := byteAt_lt s.data.toList (4 * t + 1)
        have l2 := byteAt_lt s.data.toList (4 * t + 2)
        have l3 := byteAt_lt s.data.toList (4 * t + 3)
        have hj := be4_i64 _ _ _ _ l0 l1 l2 l3
        have HR := hideB2 R
        have HRB := hideB2 RB
        clear R RB hset hs1 hn hrow hb hlen
        generalize byteAt s.data.toList (4 * t) = y0 at *
        generalize byteAt s.data.toList (4 * t + 1) = y1 at *
        generalize byteAt s.data.toList (4 * t + 2) = y2 at *
        generalize byteAt s.data.toList (4 * t + 3) = y3 at *
        generalize (((0 * 256 + y0) * 256 + y1) * 256 + y2) * 256 + y3 = y at *
        go_wp2
        go_region
        go_wp2
        go_roundw
        case rel => exact ⟨t + 1, by omega, by go_num, HR.out.drew, HRB.out.drew⟩
        case measure => simp [intOf]; omega
      · have hn : nxt s.data.toList t (schL s.data.toList t) = rotl ((((schL s.data.toList t).getD (t - 3) 0 ^^^ (schL s.data.toList t).getD (t - 8) 0) ^^^ (schL s.data.toList t).getD (t - 14) 0) ^^^ (schL s.data.toList t).getD (t - 16) 0) 1 := by unfold nxt; rw [if_neg h16]
        rw [hn] at R RB
        have hg := getD_lt (B := 4294967296) (by decide) (schL_lt s.data.toList t)
        have hcs := fun j (hj : j < t) => (hrow.cell j (by rw [hlen]; omega)).trans (by rw [fillR_at _ _ _ (by rw [schL_len]; exact hj)])
        have c3 := hcs (t - 3) (by omega)
        have c8 := hcs (t - 8) (by omega)
        have c14 := hcs (t - 14) (by omega)
        have c16 := hcs (t - 16) (by omega)
        have g3 := hg (t - 3)
        have g8 := hg (t - 8)
        have g14 := hg (t - 14)
        have g16 := hg (t - 16)
        have HR := hideB2 R
        have HRB := hideB2 RB
        clear R RB hset hs1 hn hrow hb hlen hcs hg
        generalize (schL s.data.toList t).getD (t - 3) 0 = x3 at *
        generalize (schL s.data.toList t).getD (t - 8) 0 = x8 at *
        generalize (schL s.data.toList t).getD (t - 14) 0 = x14 at *
        generalize (schL s.data.toList t).getD (t - 16) 0 = x16 at *
        have z1 := xor_lt32 g3 g8
        have z2 := xor_lt32 z1 g14
        have z3 := xor_lt32 z2 g16
        have e1 := i64_xor_nat x3 x8 (by omega) (by omega)
        have e2 := i64_xor_nat _ x14 (show x3 ^^^ x8 < 9223372036854775808 by omega) (by omega)
        have e3 := i64_xor_nat _ x16 (show (x3 ^^^ x8) ^^^ x14 < 9223372036854775808 by omega) (by omega)
        have i3 : (t : Int) - 3 = ((t - 3 : Nat) : Int) := by omega
        have i8 : (t : Int) - 8 = ((t - 8 : Nat) : Int) := by omega
        have i14 : (t : Int) - 14 = ((t - 14 : Nat) : Int) := by omega
        have i16 : (t : Int) - 16 = ((t - 16 : Nat) : Int) := by omega
        have j3 : t - 3 < 80 := by omega
        have j8 : t - 8 < 80 := by omega
        have j14 : t - 14 < 80 := by omega
        have j16 : t - 16 < 80 := by omega
        generalize t - 3 = t3 at *
        generalize t - 8 = t8 at *
        generalize t - 14 = t14 at *
        generalize t - 16 = t16 at *
        have wr64 : ∀ n : Nat, n < 80 → IntKind.i64.wrap (n : Int) = (n : Int) := fun n hn => wrap_i64_nat n (by omega)
        have w3 := wr64 t3 j3
        have w8 := wr64 t8 j8
        have w14 := wr64 t14 j14
        have w16 := wr64 t16 j16
        have p3 : (t3 : Int) < 80 := by omega
        have p8 : (t8 : Int) < 80 := by omega
        have p14 : (t14 : Int) < 80 := by omega
        have p16 : (t16 : Int) < 80 := by omega
        have pt : (t : Int) < 80 := by omega
        clear wr64
        go_wp2
        refine wp_region_draws_tail 27 ?_ ?_ ?_
        · kernel_rfl
        · kernel_rfl
        simp only [List.take_succ_cons, List.take_zero, List.drop_succ_cons, List.drop_zero]
        repeat (go_big_quiet_step ((go_at_call 46; exact Calls.quiet_of (l3turn_any _ 1 _ z3 (by omega)))))
        refine wpQuiet_nil ?_
        rintro _ ⟨nq, rfl⟩
        go_wp2
        exact ⟨⟨t + 1, by omega, by go_num, HR.out.drewN nq, below_drewN HRB.out nq⟩, by simp [intOf]; omega⟩
    · obtain rfl : t = 80 := by omega
      rw [show fillR (schL s.data.toList 80) 80 = schL s.data.toList 80 by have := fillR_full (schL s.data.toList 80); rwa [schL_len] at this] at hrow
      go_wp2
      go_ret
      exact ⟨rfl, hrow, hb⟩
end Go.Proofs.Ytknpolmenfdheaa
