/-
  Chapter 4: the last segment; Used, Loose, AllBytes, StoreNew, ReadAt (the program's side).
-/
import Derived.Test.YtknpolmenfdheaaDoorG2
import Derived.Test.YtknpolmenfdheaaDoorA8
import Derived.Lib.AppendStr
namespace Go.Proofs.YtknpolmenfdheaaDoor
set_option linter.unusedVariables false
set_option linter.unusedSimpArgs false
open Go.RowKit
set_option maxHeartbeats 400000 in
theorem last_any (p b n cap : Nat) (c : Int) (w : World) (h0 : w.cell? ⟨p, 0, none⟩ = some (.slice (some ⟨b, 0, none⟩) n cap)) (hn : 1 ≤ n) (h1 : n ≤ 1048576) :
    Calls Tryd.prog 42 #[.pointer (some ⟨p, 0, none⟩)] w fun e w' => e = .returned (.pointer (some ⟨b, (n - 1) * 2, none⟩)) ∧ ∃ m, w' = w.drewN m := by
  obtain ⟨k, rfl⟩ : ∃ k, n = k + 1 := ⟨n - 1, by omega⟩
  have e1 : ((k + 1 : Nat) : Int) - 1 = (k : Int) := by omega
  go_enter Tryd.func42, Tryd.ntmps42
  go_wp2
  refine wp_region_quiet_lit ?_ ?_ ?_
  · kernel_rfl
  · kernel_rfl
  repeat (go_big_quiet_step (fail))
  refine wpQuiet_nil ?_
  rintro _ ⟨nq, rfl⟩
  go_wp2
  go_ret
  exact ⟨rfl, _, rfl⟩
/-- All bytes, one behind the other. -/
def catL (l : List Sg) : List UInt8 := l.flatMap fun s => s.1.data.toList
theorem catL_app (a b : List Sg) : catL (a ++ b) = catL a ++ catL b := by simp [catL]
theorem catL_one (s : Sg) : catL [s] = s.1.data.toList := by simp [catL]
theorem catL_len (l : List Sg) : (catL l).length = totG l := by
  induction l with
  | nil => rfl
  | cons s l ih =>
    have e1 : catL (s :: l) = s.1.data.toList ++ catL l := rfl
    have e2 : totG (s :: l) = s.1.size + totG l := by simp [totG]
    rw [e1, e2, List.length_append, ih, len_data]
theorem catL_next (l : List Sg) (k : Nat) (h : k < l.length) : catL (l.take (k + 1)) = catL (l.take k) ++ (sgAt l k).1.data.toList := by
  rw [take_next l k h, catL_app, catL_one]
def catB (l : List Sg) : ByteArray := ⟨(catL l).toArray⟩
theorem catB_size (l : List Sg) : (catB l).size = totG l := by
  rw [← catL_len]; simp [catB, ByteArray.size]
theorem Buf.later {w0 w w' : World} {v : Value} {l : List UInt8} (h : Buf w0 w v l) (k : Below w.heap.size w w') : Buf w0 w' v l := by
  refine ⟨h.below.trans (k.mono h.below.size), h.own.1, ?_⟩
  rcases h.own.2 with hn | ⟨g, cap, cur, e, hb, hg, r⟩
  · exact .inl hn
  · exact .inr ⟨g, cap, cur, e, hb, by rw [k.block g (Array.getElem?_eq_some_iff.1 hg).1]; exact hg, r⟩
/-- append(out, s...), s a text. -/
theorem wp_appS {ops : Array Oper} {rest : List Oper} {o : Oper} {a : Act} {Q : Exit → Act → World → Prop} {w0 W : World} (hgd : o.guard = none) (sl x : Operand)
    (ho : o.op = .call { callee := .builtin .append, args := #[sl, x], argTypes := #[22, 9] }) (v : Value) (l : List UInt8) (hs : a.eval sl = v) (hbuf : Buf w0 W v l)
    (s : ByteArray) (hx : a.eval x = .string s) (hlen : l.length + s.size ≤ 1099511627776)
    (h : ∀ v' W', Buf w0 W' v' (l ++ s.data.toList) → Below w0.heap.size W W' → wpList Tryd.prog ops Q rest (a.put o.dst v') W') :
    wpList Tryd.prog ops Q (o :: rest) a W := by
  obtain ⟨i0, hi, hz0, hz1, hz2⟩ := info_parts Tryd.infoU8
  refine Lib.wpList_append_own_string W hgd sl x 22 9 ho w0.heap.size 5 i0 Tryd.underlying22 Tryd.underlying9 hi hz0 hz1 hz2 v l.length (l.map c8) hs hbuf.own s hx (by unfold maxLen; omega) (by omega) hbuf.below.size ?_
  intro v' W' hown hgrow _
  have hB : Below w0.heap.size W W' := ⟨hgrow.os, hgrow.tape, hgrow.output, hgrow.size, fun k hk => hgrow.block k (by have := hbuf.below.size; omega) (fun e => by have := (hbuf.own.lt k e.symm).1; omega)⟩
  refine h v' W' ⟨hbuf.below.trans hB, ?_⟩ hB
  rw [List.length_append, len_data, List.map_append]
  have e : Lib.strCells s = s.data.toList.map c8 := by
    unfold Lib.strCells
    rfl
  rw [← e]
  exact hown
set_option maxHeartbeats 2000000 in
theorem AllBytes_any (v : Value) (l : List Sg) (c : Int) (w : World) (hv : SlG w v l) (hl : l.length ≤ 1048576) (ht : totG l ≤ 1099511627776) :
    Calls Tryd.prog 12 #[.agg #[v, .int .i64 c]] w fun e w' => e = .returned (.string (if storeQ l c = true then catB l else ⟨#[]⟩)) ∧ Below w.heap.size w w' := by
  obtain ⟨a, c0, rfl⟩ := hv.form
  generalize hR : (if storeQ l c = true then catB l else ⟨#[]⟩) = R
  have HR := hideB2 hR
  clear hR
  generalize hn : l.length = n at *
  have HN := hideB2 hn
  clear hn
  have ha := below_a1 w (.cells #[.slice a n c0, .int .i64 c] 25)
  have A0 := Blk.new w #[.slice a n c0, .int .i64 c] 25
  have HA := hideB2 A0
  have HV := hideB2 (hv.later ha)
  clear A0 hv
  go_enter Tryd.func12, Tryd.ntmps12
  go_wp2_with fail
  refine (StoreOk_any _ l c _ HV.out (by rw [HN.out]; exact hl) ht).mono ?_
  rintro e w1 ⟨rfl, hb1⟩
  obtain ⟨p0, p1⟩ := (HA.out.later hb1).c2
  have HB := hideB2 (below_then ha hb1)
  have HV1 := hideB2 (HV.out.later hb1)
  clear ha hb1 HV HA
  cases hq : storeQ l c with
  | false =>
    have HF := hideB2 (show (⟨#[]⟩ : ByteArray) = R by rw [← HR.out, hq]; rfl)
    clear hq HR
    have hf := HF.out
    subst hf
    go_wp2
    go_ret
    exact ⟨rfl, HB.out⟩
  | true =>
    have HF := hideB2 (show catB l = R by rw [← HR.out, hq]; rfl)
    clear hq HR
    go_wp2
    go_loopw [3, 12] (fun x i wr => ∃ k : Nat, k ≤ n ∧ i = .int .i64 k ∧ Buf w1 wr x (catL (l.take k))) (fun _ i _ => n - (intOf i).toNat)
    case atStart => exact ⟨0, Nat.zero_le _, rfl, Buf.start w1⟩
    case round =>
      obtain ⟨k, hk, rfl, hbuf⟩ := hrel
      have hb := hbuf.below
      by_cases hlt : k < n
      · obtain ⟨b, rfl, hr⟩ := HV1.out.row (by rw [HN.out]; omega)
        have p0 := (hr.keep hb).dat k (by rw [HN.out]; exact hlt)
        have p1 := (hr.keep hb).saf k (by rw [HN.out]; exact hlt)
        have hat := totG_at l k (by rw [HN.out]; exact hlt)
        have hnx := catL_next l k (by rw [HN.out]; exact hlt)
        have hcl := catL_len (l.take k)
        clear hr
        generalize sgAt l k = x at *
        obtain ⟨d, s⟩ := x
        simp only at p0 p1 hat hnx
        have HNX := hideB2 hnx
        have HLE := hideB2 (show (catL (l.take k)).length + d.size ≤ 1099511627776 by omega)
        have HBF := hideB2 (fun o => hbuf.alloc o)
        obtain ⟨a1, c1, rfl⟩ := hbuf.form
        clear hnx hat hcl hbuf hb
        generalize catL (l.take k) = t at *
        go_wp2_with (refine wp_appS rfl _ _ rfl _ t rfl (HBF.out _) d rfl HLE.out ?_; intro v2 W2 hbuf2 hB2; have HBF2 := hideB2 hbuf2; have HB2 := hideB2 hB2; clear hbuf2 hB2)
        exact ⟨⟨k + 1, by omega, by go_num, by rw [HNX.out]; exact HBF2.out⟩, by simp [intOf]; omega⟩
      · obtain rfl : k = n := by omega
        rw [List.take_of_length_le (by rw [HN.out]; exact Nat.le_refl _)] at hbuf
        have hcv := hbuf.text
        have HBB := hideB2 (below_then HB.out hbuf.below)
        have hf := HF.out
        unfold catB at hf
        obtain ⟨a1, c1, rfl⟩ := hbuf.form
        clear hbuf HF hb
        rw [hf] at hcv
        go_wp2
        go_ret
        exact ⟨rfl, HBB.out⟩
set_option maxHeartbeats 1000000 in
theorem Used_any (v : Value) (l : List Sg) (c : Int) (w : World) (hv : SlG w v l) (hl : l.length ≤ 1048576) (ht : totG l ≤ 1099511627776) :
    Calls Tryd.prog 14 #[.agg #[v, .int .i64 c]] w fun e w' => e = .returned (.int .i64 (if storeQ l c = true then (totG l : Int) else -1)) ∧ Below w.heap.size w w' := by
  generalize hR : (if storeQ l c = true then (totG l : Int) else -1) = R
  have HR := hideB2 hR
  clear hR
  have ha := below_a1 w (.cells #[v, .int .i64 c] 25)
  have A0 := Blk.new w #[v, .int .i64 c] 25
  have HA := hideB2 A0
  have HV := hideB2 (hv.later ha)
  have o1 := hv.one
  clear A0
  go_enter Tryd.func14, Tryd.ntmps14
  go_wp2_with fail
  refine (StoreOk_any v l c _ HV.out hl ht).mono ?_
  rintro e w1 ⟨rfl, hb1⟩
  obtain ⟨p0, p1⟩ := (HA.out.later hb1).c2
  have HB := hideB2 (below_then ha hb1)
  have HV1 := hideB2 (HV.out.later hb1)
  clear ha hb1 hv HV
  cases hq : storeQ l c with
  | false =>
    have HF := hideB2 (show -1 = R by rw [← HR.out, hq]; rfl)
    clear hq
    go_wp2
    go_ret
    exact ⟨ret_int HF.out.symm, HB.out⟩
  | true =>
    have HF := hideB2 (show (totG l : Int) = R by rw [← HR.out, hq]; rfl)
    clear hq
    go_wp2_with fail
    refine (size_any v l c _ HV1.out hl ht).mono ?_
    rintro e w2 ⟨rfl, hb2⟩
    have HB2 := hideB2 (below_then HB.out hb2)
    clear hb2
    go_wp2
    go_ret
    exact ⟨ret_int HF.out.symm, HB2.out⟩
set_option maxHeartbeats 2000000 in
theorem Loose_any (v : Value) (l : List Sg) (c : Int) (w : World) (hv : SlG w v l) (hl : l.length ≤ 1048576) (ht : totG l ≤ 1099511627776) :
    Calls Tryd.prog 13 #[.agg #[v, .int .i64 c]] w fun e w' => e = .returned (.int .i64 (if storeQ l c = true then ((sgAt l (l.length - 1)).1.size : Int) - (sgAt l (l.length - 1)).2 else -1)) ∧ Below w.heap.size w w' := by
  obtain ⟨a, c0, rfl⟩ := hv.form
  generalize hR : (if storeQ l c = true then ((sgAt l (l.length - 1)).1.size : Int) - (sgAt l (l.length - 1)).2 else -1) = R
  have HR := hideB2 hR
  clear hR
  generalize hn : l.length = n at *
  have HN := hideB2 hn
  clear hn
  have ha := below_a1 w (.cells #[.slice a n c0, .int .i64 c] 25)
  have A0 := Blk.new w #[.slice a n c0, .int .i64 c] 25
  have HA := hideB2 A0
  have HV := hideB2 (hv.later ha)
  clear A0 hv
  go_enter Tryd.func13, Tryd.ntmps13
  go_wp2_with fail
  refine (StoreOk_any _ l c _ HV.out (by rw [HN.out]; exact hl) ht).mono ?_
  rintro e w1 ⟨rfl, hb1⟩
  obtain ⟨p0, p1⟩ := (HA.out.later hb1).c2
  have HB := hideB2 (below_then ha hb1)
  have HV1 := hideB2 (HV.out.later hb1)
  clear ha hb1 HV HA
  cases hq : storeQ l c with
  | false =>
    have HF := hideB2 (show -1 = R by rw [← HR.out, hq]; rfl)
    clear hq HR
    go_wp2
    go_ret
    exact ⟨ret_int HF.out.symm, HB.out⟩
  | true =>
    obtain ⟨_, _, q1, q2, q3, _⟩ := storeQ_iff.1 hq
    rw [HN.out] at q1 q2
    obtain ⟨b, rfl, hr⟩ := HV1.out.row (by rw [HN.out]; omega)
    have hrow := rowQ_iff.1 (q3 (n - 1) (by rw [HN.out]; omega))
    have d0 := hr.dat (n - 1) (by rw [HN.out]; omega)
    have d1 := hr.saf (n - 1) (by rw [HN.out]; omega)
    have hat := totG_at l (n - 1) (by rw [HN.out]; omega)
    have HF := hideB2 (show ((sgAt l (n - 1)).1.size : Int) - (sgAt l (n - 1)).2 = R by rw [← HR.out, hq]; rfl)
    clear hq HR q3 hr
    generalize sgAt l (n - 1) = x at *
    obtain ⟨d, s⟩ := x
    simp only at d0 d1 hat hrow
    obtain ⟨g1, g2, _⟩ := hrow
    go_wp2_with fail
    refine (last_any _ b n c0 c _ p0 q1 (by omega)).mono ?_
    rintro e w2 ⟨rfl, m, rfl⟩
    go_wp2_with fail
    refine (loose_any d s _ g1 g2 (by unfold maxLen; omega)).mono ?_
    rintro e w3 ⟨rfl, hb3⟩
    have HB3 := hideB2 (below_then (below_drewN HB.out m) hb3)
    clear hb3
    go_wp2
    go_ret
    exact ⟨ret_int HF.out.symm, HB3.out⟩
theorem rowG_one' (w : World) : RowG (w.alloc (.cells #[.string ⟨#[]⟩, .int .i64 0] 34)) w.heap.size [sg0] := by
  have h := Blk.new w #[.string ⟨#[]⟩, .int .i64 0] 34
  refine ⟨fun j hj => ?_, fun j hj => ?_, h.free, h.lt⟩
  all_goals
    obtain rfl : j = 0 := by simpa using hj
    first | exact h.cell 0 | exact h.cell 1
theorem rowG_one (w : World) (o : Obj) : RowG ((w.alloc (.cells #[.string ⟨#[]⟩, .int .i64 0] 34)).alloc o) w.heap.size [sg0] := by
  have h := (Blk.new w #[.string ⟨#[]⟩, .int .i64 0] 34).alloc o
  refine ⟨fun j hj => ?_, fun j hj => ?_, h.free, h.lt⟩
  all_goals
    obtain rfl : j = 0 := by simpa using hj
    first | exact h.cell 0 | exact h.cell 1
set_option maxHeartbeats 1000000 in
theorem StoreNew_yes (r : Int) (w : World) (h1 : 0 ≤ r) (h2 : r ≤ 60000) :
    Calls Tryd.prog 40 #[.int .i64 r] w fun e w' => ∃ b, e = .returned (.tuple #[.agg #[.slice (some ⟨b, 0, none⟩) 1 1, .int .i64 r], .bool true]) ∧ w.heap.size ≤ b ∧ RowG w' b [sg0] ∧ Below w.heap.size w w' := by
  have w0 : withinB r 0 60000 = true := within_iff.2 ⟨h1, h2⟩
  go_enter Tryd.func40, Tryd.ntmps40
  go_wp2_with (go_at_call 41; refine (within_any _ _ _ _).mono ?_; rintro e w' ⟨rfl, rfl⟩)
  refine bodyPost_ret (results_cellT rfl _ _ _ rfl ((Blk.new w _ _).alloc _) Tryd.underlying25 Tryd.infoStore) rfl ⟨w.heap.size + 1, rfl, by omega, ?_, below_a2 w _ _⟩
  have h := rowG_one' (w.alloc (.cells #[.slice (some ⟨w.heap.size + 1, 0, none⟩) 1 1, .int .i64 r] 25))
  simpa using h
set_option maxHeartbeats 1000000 in
theorem StoreNew_no (r : Int) (w : World) (h : ¬ (0 ≤ r ∧ r ≤ 60000)) :
    Calls Tryd.prog 40 #[.int .i64 r] w fun e w' => e = .returned (.tuple #[.agg #[.slice none 0 0, .int .i64 0], .bool false]) ∧ Below w.heap.size w w' := by
  have w0 : withinB r 0 60000 = false := by cases hh : withinB r 0 60000 with | false => rfl | true => exact absurd (within_iff.1 hh) h
  clear h
  go_enter Tryd.func40, Tryd.ntmps40
  go_wp2_with (go_at_call 41; refine (within_any _ _ _ _).mono ?_; rintro e w' ⟨rfl, rfl⟩)
  refine bodyPost_ret (results_cellT rfl _ _ _ rfl (Blk.new w _ _) Tryd.underlying25 Tryd.infoStore) rfl ⟨rfl, below_a1 w _⟩
def readQ (l : List Sg) (c seg a n : Int) : Bool := storeQ l c && decide (0 ≤ seg ∧ seg < (l.length : Int) ∧ 0 ≤ a ∧ 0 ≤ n ∧ a + n ≤ ((sgAt l seg.toNat).1.size : Int))
def readB (l : List Sg) (seg a n : Int) : ByteArray := (sgAt l seg.toNat).1.extract a.toNat (a + n).toNat
set_option maxHeartbeats 4000000 in
theorem ReadAt_any (v : Value) (l : List Sg) (c seg x n : Int) (w : World) (hv : SlG w v l) (hl : l.length ≤ 1048576) (ht : totG l ≤ 1099511627776) (hxb : -9223372036854775808 ≤ x ∧ x ≤ 9223372036854775807) (hnb : -9223372036854775808 ≤ n ∧ n ≤ 9223372036854775807) :
    Calls Tryd.prog 11 #[.agg #[v, .int .i64 c], .int .i64 seg, .int .i64 x, .int .i64 n] w fun e w' => e = .returned (.tuple #[.string (if readQ l c seg x n = true then readB l seg x n else ⟨#[]⟩), .bool (readQ l c seg x n)]) ∧ Below w.heap.size w w' := by
  obtain ⟨a, c0, rfl⟩ := hv.form
  generalize hR : (if readQ l c seg x n = true then readB l seg x n else ⟨#[]⟩) = R
  generalize hQ : readQ l c seg x n = Q
  have HR := hideB2 hR
  have HQ := hideB2 hQ
  clear hR hQ
  generalize hm : l.length = m at *
  have HN := hideB2 hm
  clear hm
  have ha := below_a1 w (.cells #[.slice a m c0, .int .i64 c] 25)
  have A0 := Blk.new w #[.slice a m c0, .int .i64 c] 25
  have HA := hideB2 A0
  have HV := hideB2 (hv.later ha)
  clear A0 hv
  go_enter Tryd.func11, Tryd.ntmps11
  go_wp2_with fail
  refine (StoreOk_any _ l c _ HV.out (by rw [HN.out]; exact hl) ht).mono ?_
  rintro e w1 ⟨rfl, hb1⟩
  obtain ⟨p0, p1⟩ := (HA.out.later hb1).c2
  have HB := hideB2 (below_then ha hb1)
  have HV1 := hideB2 (HV.out.later hb1)
  clear ha hb1 HV HA
  cases hq : storeQ l c with
  | false =>
    have HF := hideB2 (show false = Q by rw [← HQ.out]; unfold readQ; rw [hq]; rfl)
    have hf := HF.out
    subst hf
    have HG := hideB2 (show (⟨#[]⟩ : ByteArray) = R by rw [← HR.out, HQ.out]; rfl)
    have hg := HG.out
    subst hg
    clear hq HR HQ
    go_wp2
    go_ret2
    exact ⟨rfl, HB.out⟩
  | true =>
    obtain ⟨_, _, q1, q2, q3, _⟩ := storeQ_iff.1 hq
    rw [HN.out] at q1 q2
    have HQ2 := hideB2 (show decide (0 ≤ seg ∧ seg < (m : Int) ∧ 0 ≤ x ∧ 0 ≤ n ∧ x + n ≤ ((sgAt l seg.toNat).1.size : Int)) = Q by rw [← HQ.out]; unfold readQ; rw [hq, HN.out]; rfl)
    by_cases hs : 0 ≤ seg ∧ seg ≤ (m : Int) - 1 ∧ 0 ≤ x ∧ 0 ≤ n
    · obtain ⟨s1, s2, s3, s4⟩ := hs
      have w0 : withinB seg 0 ((m : Int) - 1) = true := within_iff.2 ⟨s1, s2⟩
      obtain ⟨k, rfl⟩ : ∃ k : Nat, seg = (k : Int) := ⟨seg.toNat, by omega⟩
      rw [Int.toNat_natCast] at HQ2
      have hk : k < m := by omega
      obtain ⟨b, rfl, hr⟩ := HV1.out.row (by rw [HN.out]; omega)
      have d0 := hr.dat k (by rw [HN.out]; exact hk)
      have hat := totG_at l k (by rw [HN.out]; exact hk)
      have HRB := hideB2 (show readB l (k : Int) x n = (sgAt l k).1.extract x.toNat (x + n).toNat from rfl)
      clear hq q3 hr
      generalize sgAt l k = y at *
      obtain ⟨d, s⟩ := y
      simp only at d0 hat HQ2 HRB
      have hds : (d.size : Int) ≤ 1099511627776 := by omega
      clear hat
      by_cases hle : x + n ≤ (d.size : Int)
      · have HF := hideB2 (show true = Q by rw [← HQ2.out]; symm; rw [decide_eq_true_eq]; exact ⟨s1, by omega, s3, s4, hle⟩)
        have hf := HF.out
        subst hf
        have HG := hideB2 (show d.extract x.toNat (x + n).toNat = R by rw [← HR.out, HQ.out, if_pos rfl, HRB.out])
        have hg := HG.out
        subst hg
        have hnn : ¬ (d.size : Int) - x < n := by omega
        clear HR HQ HQ2 HF HG
        go_wp2_with (go_at_call 41; refine (within_any _ _ _ _).mono ?_; rintro e w' ⟨rfl, rfl⟩)
        go_ret2
        exact ⟨rfl, HB.out⟩
      · have HF := hideB2 (show false = Q by rw [← HQ2.out]; symm; rw [decide_eq_false_iff_not]; exact fun h => hle h.2.2.2.2)
        have hf := HF.out
        subst hf
        have HG := hideB2 (show (⟨#[]⟩ : ByteArray) = R by rw [← HR.out, HQ.out]; rfl)
        have hg := HG.out
        subst hg
        have hnn : (d.size : Int) - x < n := by omega
        clear HR HQ HQ2 HF HG
        go_wp2_with (go_at_call 41; refine (within_any _ _ _ _).mono ?_; rintro e w' ⟨rfl, rfl⟩)
        go_ret2
        exact ⟨rfl, HB.out⟩
    · have HF := hideB2 (show false = Q by rw [← HQ2.out]; symm; rw [decide_eq_false_iff_not]; exact fun h => hs ⟨h.1, by omega, h.2.2.1, h.2.2.2.1⟩)
      have hf := HF.out
      subst hf
      have HG := hideB2 (show (⟨#[]⟩ : ByteArray) = R by rw [← HR.out, HQ.out]; rfl)
      have hg := HG.out
      subst hg
      have h5 : ¬ (0 ≤ seg ∧ seg ≤ (m : Int) - 1) ∨ (0 ≤ seg ∧ seg ≤ (m : Int) - 1) ∧ x < 0 ∨ (0 ≤ seg ∧ seg ≤ (m : Int) - 1) ∧ ¬ x < 0 ∧ n < 0 := by omega
      clear HR HQ HQ2 HF HG hs hq q3
      rcases h5 with g | ⟨g, g1⟩ | ⟨g, g1, g2⟩
      · have w0 : withinB seg 0 ((m : Int) - 1) = false := by cases hh : withinB seg 0 ((m : Int) - 1) with | false => rfl | true => exact absurd (within_iff.1 hh) g
        clear g
        go_wp2_with (go_at_call 41; refine (within_any _ _ _ _).mono ?_; rintro e w' ⟨rfl, rfl⟩)
        go_ret2
        exact ⟨rfl, HB.out⟩
      all_goals
        have w0 : withinB seg 0 ((m : Int) - 1) = true := within_iff.2 g
        clear g
        go_wp2_with (go_at_call 41; refine (within_any _ _ _ _).mono ?_; rintro e w' ⟨rfl, rfl⟩)
        go_ret2
        exact ⟨rfl, HB.out⟩
end Go.Proofs.YtknpolmenfdheaaDoor
