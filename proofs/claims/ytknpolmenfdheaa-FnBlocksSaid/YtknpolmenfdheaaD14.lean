/-
  The walks over chapter 3: ShaOk, ShaNew, ShaAdd (spec).
-/
import Derived.Test.YtknpolmenfdheaaD12
namespace Go.Proofs.Ytknpolmenfdheaa
set_option linter.unusedVariables false
set_option linter.unusedSimpArgs false
open Go.RowKit
set_option maxHeartbeats 2000000 in
theorem sShaOk_any (b n cap : Nat) (xs : List Int) (r : ByteArray) (size : Int) (w : World) (hr : RowZ w b xs) (hn : xs.length = n) (hm : n ≤ maxLen) (hs : r.size ≤ maxLen) :
    Calls Try.prog 15 #[shaV b n cap r size] w fun e w' => e = .returned (.bool (shaQ xs r.size size)) ∧ Below w.heap.size w w' := by
  unfold maxLen at hs
  unfold shaV shaQ
  go_enter Try.func15, Try.ntmps15
  go_wp2_with fail
  refine (l3words_any b n cap xs _ (hr.keep (below_a1 _ _)) hn hm).mono ?_
  rintro e w1 ⟨rfl, rfl⟩
  have HB := hideB2 (below_a1 w (.cells #[.slice (some ⟨b, 0, none⟩) n cap, .string r, .int .i64 size] 27))
  clear hr hn
  cases h1 : fiveZ xs with
  | false =>
    go_wp2
    go_ret
    exact ⟨ret_bool (by rw [h1]; rfl), HB.out⟩
  | true =>
    by_cases g1 : 0 ≤ size
    · by_cases g2 : size ≤ 999999999999999
      · have h2 := within_iff.2 ⟨g1, g2⟩
        cases h3 : ((r.size : Int) == size % 64) with
        | false =>
          go_wp2
          go_ret
          exact ⟨ret_bool (by rw [h1, h2, h3]; rfl), HB.out⟩
        | true =>
          go_wp2
          go_ret
          exact ⟨ret_bool (by rw [h1, h2, h3]; rfl), HB.out⟩
      · have h2 : withinB size 0 999999999999999 = false := by simp [withinB, g2]
        go_wp2
        go_ret
        exact ⟨ret_bool (by first | rfl | (rw [h1, h2]; rfl)), HB.out⟩
    · have h2 : withinB size 0 999999999999999 = false := by simp [withinB, g1]
      go_wp2
      go_ret
      exact ⟨ret_bool (by first | rfl | (rw [h1, h2]; rfl)), HB.out⟩
set_option maxHeartbeats 1000000 in
theorem sShaNew_any (w : World) :
    Calls Try.prog 31 #[] w fun e w' => ∃ b', e = .returned (shaV b' 5 5 ⟨#[]⟩ 0) ∧ w.heap.size ≤ b' ∧ RowN w' b' h0L ∧ Below w.heap.size w w' := by
  go_enter Try.func31, Try.ntmps31
  go_wp2
  rw [← h0_cells]
  refine bodyPost_ret (v := shaV (w.heap.size + 1) 5 5 ⟨#[]⟩ 0) (by simp [results, Try.results31, go_sem, shaV]) rfl ⟨w.heap.size + 1, rfl, by omega, ?_, below_a2 w _ _⟩
  have := rowN_new (w.alloc (.cells #[.slice (some ⟨w.heap.size + 1, 0, none⟩) 5 5, .string ⟨#[]⟩, .int .i64 0] 27)) h0L 3
  rwa [show (w.alloc (.cells #[.slice (some ⟨w.heap.size + 1, 0, none⟩) 5 5, .string ⟨#[]⟩, .int .i64 0] 27)).heap.size = w.heap.size + 1 by simp] at this
theorem grewCell {W : World} {p : Addr} {v : Value} (h : W.cell? p = some v) (o : Obj) : (W.alloc o).cell? p = some v := by
  rw [(below_a1 W o).cell (p := p) (World.block_lt_of_cell? _ _ h)]; exact h
theorem none_own (w : World) : (w.alloc (.cells #[] 3)).ownsRow w.heap.size 3 1 (.slice (some ⟨w.heap.size, 0, none⟩) 0 0) 0 [] :=
  ⟨by simp, .inr ⟨w.heap.size, 0, #[], rfl, Nat.le_refl _, heap_alloc_new w _, Nat.le_refl _, by decide, by simp, by simp⟩⟩
/-- append([]int{}, h...). -/
theorem wp_appH {ops : Array Oper} {rest : List Oper} {o : Oper} {a : Act} {Q : Exit → Act → World → Prop} {W : World} (hgd : o.guard = none) (s x : Operand)
    (ho : o.op = .call { callee := .builtin .append, args := #[s, x], argTypes := #[25, 25] }) (c cap : Nat) (h : List Nat) (hh : h.length = 5)
    (hs : a.eval s = .slice (some ⟨W.heap.size, 0, none⟩) 0 0) (hx : a.eval x = .slice (some ⟨c, 0, none⟩) 5 cap) (hr : RowN W c h)
    (k : ∀ w' b' cap', W.heap.size ≤ b' → RowN w' b' h → Below W.heap.size W w' → wpList Try.prog ops Q rest (a.put o.dst (.slice (some ⟨b', 0, none⟩) 5 cap')) w') :
    wpList Try.prog ops Q (o :: rest) a (W.alloc (.cells #[] 3)) := by
  obtain ⟨i0, hi, hz0, hz1, hz2⟩ := info_parts Try.infoI
  refine wpList_append_own _ hgd s x 25 ho W.heap.size 3 i0 (.int .i64 0) 1 8 Try.underlying25 hi hz0 hz1 hz2 rfl (by decide) _ 0 [] hs (none_own W) ⟨c, 0, none⟩ 5 cap (h.map fun (x : Nat) => Value.int .i64 (x : Int)) hx (by simp [hh]) ?_ ?_ (by unfold maxLen; omega) (by omega) (by simp) ?_
  · intro j v hv
    have hj : j < h.length := by have := (List.getElem?_eq_some_iff.1 hv).1; simpa using this
    rw [Addr.add_lit, Nat.zero_add, (below_a1 W _).cell (p := ⟨c, j, none⟩) hr.lt, hr.cell j hj, ← hv]
    simp [List.getD, hj]
  · intro u hu
    obtain ⟨n, _, rfl⟩ := List.mem_map.1 hu
    rfl
  intro v' w' hown hgrow _
  have hbel : Below W.heap.size W w' := (below_a1 W _).grown hgrow (by simp) (fun k hk => by
    have e : (Value.slice (some ⟨W.heap.size, 0, none⟩) 0 0).ownBlock = some W.heap.size := rfl
    rw [e] at hk
    cases hk
    exact Nat.le_refl _)
  rcases hown.2 with ⟨_, h2⟩ | ⟨g, cap', cur, h1, _⟩
  · simp at h2
  · subst h1
    have hlt := hown.lt g rfl
    refine k w' g cap' hlt.1 ⟨fun j hj => ?_, fun j => hown.frozenAt j, hlt.2⟩ hbel
    have := hown.cells (g := g) rfl j (.int .i64 ((h.getD j 0 : Nat) : Int)) (by simp [List.getD, hj])
    rwa [Addr.add_lit, Nat.zero_add] at this
set_option maxHeartbeats 2000000 in
theorem sShaAdd_no (c n cap : Nat) (xs : List Int) (r b : ByteArray) (size : Int) (w : World) (hr : RowZ w c xs) (hn : xs.length = n) (hm : n ≤ maxLen) (hs : r.size ≤ maxLen) (hb : b.size ≤ maxLen) (h : addQ xs r.size size b.size = false) :
    Calls Try.prog 30 #[shaV c n cap r size, .string b] w fun e w' => e = .returned shaZ ∧ Below w.heap.size w w' := by
  have hb' := hb
  unfold maxLen at hb'
  unfold shaV
  go_enter Try.func30, Try.ntmps30
  go_wp2_with fail
  refine (sShaOk_any c n cap xs r size _ (hr.keep (below_a2 _ _ _)) hn hm hs).mono ?_
  rintro e w1 ⟨rfl, hb1⟩
  have K0 := (blk2_a w #[.slice (some ⟨c, 0, none⟩) n cap, .string r, .int .i64 size] 27 (.cells #[.slice none 0 0, .string ⟨#[]⟩, .int .i64 0] 27)).later hb1
  have K1 := (blk2_b w #[.slice none 0 0, .string ⟨#[]⟩, .int .i64 0] 27 (.cells #[.slice (some ⟨c, 0, none⟩) n cap, .string r, .int .i64 size] 27)).later hb1
  have s2 : w1.cell? ⟨w.heap.size, 2, none⟩ = some (.int .i64 size) := K0.cell 2
  have c0 : w1.cell? ⟨w.heap.size + 1, 0, none⟩ = some (.slice none 0 0) := K1.cell 0
  have c1 : w1.cell? ⟨w.heap.size + 1, 1, none⟩ = some (.string ⟨#[]⟩) := K1.cell 1
  have c2 : w1.cell? ⟨w.heap.size + 1, 2, none⟩ = some (.int .i64 0) := K1.cell 2
  have f0 := K1.free 0
  have f1 := K1.free 1
  have f2 := K1.free 2
  have HB := hideB2 (below_then (below_a2 w _ _) hb1)
  have HK := hideB2 K1
  clear K0 K1 hb1 hr hn
  cases h1 : shaQ xs r.size size with
  | false =>
    go_wp2
    exact bodyPost_ret (results_cellS rfl _ _ _ rfl (HK.out.set3 _ _ _) Try.underlying27 Try.infoSha) rfl ⟨rfl, below_set3 HB.out (Nat.le_succ _) _ _ _⟩
  | true =>
    obtain ⟨_, ⟨q1, q2⟩, _⟩ := shaQ_iff.1 h1
    have hlt : 999999999999999 - size < (b.size : Int) := by
      unfold addQ at h
      rw [h1, Bool.true_and, decide_eq_false_iff_not] at h
      omega
    clear h
    go_wp2
    exact bodyPost_ret (results_cellS rfl _ _ _ rfl (HK.out.set3 _ _ _) Try.underlying27 Try.infoSha) rfl ⟨rfl, below_set3 HB.out (Nat.le_succ _) _ _ _⟩
theorem blockAt {T : ByteArray} {k : Nat} (h : 64 * k + 64 ≤ T.size) : (T.extract (64 * k) (64 * k + 64)).size = 64 ∧ (T.extract (64 * k) (64 * k + 64)).data.toList = (T.data.toList.drop (64 * k)).take 64 := by
  refine ⟨by rw [ByteArray.size_extract]; omega, ?_⟩
  rw [exL, List.drop_take]
  congr 1
  omega
set_option maxHeartbeats 4000000 in
theorem sShaAdd_any (c cap : Nat) (h : List Nat) (r b : ByteArray) (size : Nat) (w : World) (hr : RowN w c h) (hh : Five h) (hsz : r.size = size % 64) (hb : b.size + size ≤ 999999999999999) :
    Calls Try.prog 30 #[shaV c 5 cap r (size : Int), .string b] w fun e w' => ∃ g cp, e = .returned (shaV g 5 cp ⟨(inR (r.data.toList ++ b.data.toList)).toArray⟩ ((size + b.size : Nat) : Int)) ∧ w.heap.size ≤ g ∧ RowN w' g (inH h (r.data.toList ++ b.data.toList)) ∧ Below w.heap.size w w' := by
  have hQ : shaQ (nz h) r.size (size : Int) = true := shaQ_iff.2 ⟨fiveZ_of hh, ⟨by omega, by omega⟩, by omega⟩
  have hr64 : r.size < 64 := by omega
  have hbm : b.size ≤ maxLen := by unfold maxLen; omega
  have hge : ¬ 999999999999999 - (size : Int) < (b.size : Int) := by omega
  have HSZ := hideB2 hsz
  clear hsz
  unfold shaV
  go_enter Try.func30, Try.ntmps30
  go_wp2_with fail
  refine (sShaOk_any c 5 cap (nz h) r size _ (hr.z.keep (below_a2 _ _ _)) (by rw [nz_len]; exact hh.1) (by unfold maxLen; omega) (by unfold maxLen; omega)).mono ?_
  rintro e w1 ⟨rfl, hb1⟩
  have K0 := (blk2_a w #[.slice (some ⟨c, 0, none⟩) 5 cap, .string r, .int .i64 (size : Int)] 27 (.cells #[.slice none 0 0, .string ⟨#[]⟩, .int .i64 0] 27)).later hb1
  have K1 := (blk2_b w #[.slice none 0 0, .string ⟨#[]⟩, .int .i64 0] 27 (.cells #[.slice (some ⟨c, 0, none⟩) 5 cap, .string r, .int .i64 (size : Int)] 27)).later hb1
  have s2 : w1.cell? ⟨w.heap.size, 2, none⟩ = some (.int .i64 (size : Int)) := K0.cell 2
  have hbw1 := below_then (below_a2 w _ _) hb1
  have hr1 := hr.keep hbw1
  have s0 : w1.cell? ⟨w.heap.size, 0, none⟩ = some (.slice (some ⟨c, 0, none⟩) 5 cap) := K0.cell 0
  have s0' := grewCell s0 (.cells #[] 3)
  have HR1 := hideB2 hr1
  have HK0 := hideB2 K0
  have HK1 := hideB2 K1
  have HBW := hideB2 hbw1
  clear hr1 K0 K1 hbw1 hb1
  go_wp2_with (refine wp_appH rfl _ _ rfl c cap h hh.1 rfl rfl HR1.out ?_; intro w3 b3 cp3 hle3 hr3 hb3; have s1 : w3.cell? ⟨w.heap.size, 1, none⟩ = some (.string r) := (HK0.out.later hb3).cell 1)
  have HT := hideB2 (show (r ++ b).data.toList = r.data.toList ++ b.data.toList by rw [ByteArray.data_append, Array.toList_append])
  have HTS := hideB2 (show (r ++ b).size = r.size + b.size by rw [ByteArray.size_append])
  have hts : (r ++ b).size ≤ 1000000000000100 := by rw [ByteArray.size_append]; omega
  generalize r ++ b = T at *
  have K0 := hideB2 (HK0.out.later hb3)
  have K1 := hideB2 (HK1.out.later hb3)
  have BW := hideB2 (below_then HBW.out hb3)
  have HLE := hideB2 (Nat.lt_of_lt_of_le HK1.out.lt hle3)
  have R3 := hideB2 hr3
  clear s0 s0' s1 s2 hr3 hb3 hle3 HR1 HK0 HK1 HBW
  go_loopw [5, 7] (fun hv av wr => ∃ (m k g cp : Nat), m = 64 * k ∧ m ≤ T.size ∧ av = .int .i64 (m : Int) ∧ hv = .slice (some ⟨g, 0, none⟩) 5 cp ∧ w.heap.size + 1 < g ∧ RowN wr g (absH h T.data.toList k) ∧ Below w3.heap.size w3 wr) (fun _ av _ => T.size - (intOf av).toNat)
  case atStart => exact ⟨0, 0, b3, cp3, rfl, Nat.zero_le _, rfl, rfl, HLE.out, R3.out, Below.refl _ _⟩
  case round =>
    obtain ⟨m, k, g, cp, hm, hml, rfl, rfl, hg, hrow, hbel⟩ := hrel
    have HM := hideB2 hm
    clear hm
    by_cases hlt : 64 ≤ T.size - m
    · have hlt2 : (64 : Int) ≤ (T.size : Int) - (m : Int) := by omega
      obtain ⟨hx1, hx2⟩ := blockAt (T := T) (k := k) (by have := HM.out; omega)
      rw [← HM.out] at hx1 hx2
      have hf := absH_five hh T.data.toList k
      have HST := hideB2 (show absH h T.data.toList (k + 1) = comp (absH h T.data.toList k) ((T.data.toList.drop (64 * k)).take 64) from rfl)
      rw [← HM.out, ← hx2] at HST
      have HX := hideB2 hx1
      have HR := hideB2 hrow
      have HB := hideB2 hbel
      clear hx1 hx2 hrow hbel
      go_wp2_with fail
      refine (sCompress_any g cp _ _ _ HR.out hf HX.out).mono ?_
      rintro e w5 ⟨g5, rfl, hle5, hr5, hb5⟩
      have HR5 := hideB2 hr5
      have HB5 := hideB2 (HB.out.trans (hb5.mono HB.out.size))
      have HLE5 := hideB2 (Nat.lt_of_lt_of_le (Nat.lt_of_lt_of_le K1.out.lt HB.out.size) hle5)
      clear hr5 hb5 hle5
      go_wp2
      refine ⟨⟨m + 64, k + 1, g5, 5, by have := HM.out; omega, by omega, by go_num, rfl, HLE5.out, by rw [HST.out]; exact HR5.out, HB5.out⟩, by simp [intOf]; omega⟩
    · have hlt2 : ¬ (64 : Int) ≤ (T.size : Int) - (m : Int) := by omega
      have hk : k = T.data.toList.length / 64 := by rw [len_data]; have := HM.out; omega
      have HI : Hid (absH h T.data.toList k = inH h (r.data.toList ++ b.data.toList)) := by show _ = _; rw [← HT.out, hk]; rfl
      have HE : Hid ((T.extract m T.size).data.toList = inR (r.data.toList ++ b.data.toList)) := by show _ = _; rw [exEnd, ← HT.out, HM.out, hk]; rfl
      have J0 := K0.out.later hbel
      have J1 := K1.out.later hbel
      have s2 : wr.cell? ⟨w.heap.size, 2, none⟩ = some (.int .i64 (size : Int)) := J0.cell 2
      have c0 : wr.cell? ⟨w.heap.size + 1, 0, none⟩ = some (.slice none 0 0) := J1.cell 0
      have c1 : wr.cell? ⟨w.heap.size + 1, 1, none⟩ = some (.string ⟨#[]⟩) := J1.cell 1
      have c2 : wr.cell? ⟨w.heap.size + 1, 2, none⟩ = some (.int .i64 0) := J1.cell 2
      have f0 := J1.free 0
      have f1 := J1.free 1
      have f2 := J1.free 2
      have HJ1 := hideB2 J1
      have HR := hideB2 hrow
      have HB := hideB2 (BW.out.trans (hbel.mono BW.out.size))
      have hne : g ≠ w.heap.size + 1 := by omega
      clear hrow hbel J0 J1 hk
      go_wp2
      refine wp_region_draws_tail 10 ?_ ?_ ?_
      · kernel_rfl
      · kernel_rfl
      simp only [List.take_succ_cons, List.take_zero, List.drop_succ_cons, List.drop_zero]
      repeat (go_big_quiet_step (fail))
      refine wpQuiet_nil ?_
      rintro _ ⟨nq, rfl⟩
      go_wp2
      refine bodyPost_ret (results_cellS rfl _ _ _ rfl ((HJ1.out.drewN nq).set3 _ _ _) Try.underlying27 Try.infoSha) rfl ⟨g, cp, ?_, by omega, ?_, ?_⟩
      · rw [← HE.out, show ((size + b.size : Nat) : Int) = (size : Int) + (b.size : Int) by omega]
      · rw [← HI.out]
        exact (HR.out.drewN nq).set3 (Ne.symm hne) _ _ _
      · exact below_set3 (below_drewN HB.out nq) (Nat.le_succ _) _ _ _
end Go.Proofs.Ytknpolmenfdheaa
