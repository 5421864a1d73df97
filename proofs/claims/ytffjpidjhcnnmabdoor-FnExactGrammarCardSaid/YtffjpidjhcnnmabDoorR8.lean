/-
  Chapter 8: the one line of a name, the length that is told; the program's side.
-/
import Derived.Test.YtffjpidjhcnnmabDoorR7
namespace Go.Proofs.YtffjpidjhcnnmabDoor
set_option linter.unusedVariables false
set_option linter.unusedSimpArgs false
open Go.RowKit
theorem SlW.row {w : World} {a : Option Addr} {c : Nat} {l : List Fd} (h : SlW w (.slice a l.length c) l) (hl : 0 < l.length) : ∃ b, a = some ⟨b, 0, none⟩ ∧ RowW w b l := by
  rcases h with ⟨_, h2⟩ | ⟨b, c', h1, h2⟩
  · rw [h2] at hl; simp at hl
  · injection h1 with h1
    exact ⟨b, h1, h2⟩
theorem SlW.set {w : World} {v : Value} {l : List Fd} (h : SlW w v l) {g : Nat} (hne : v.ownBlock ≠ some g) (k : Nat) (x : Value) : SlW (w.setCell ⟨g, k, none⟩ x) v l := by
  rcases h with h | ⟨b, c, h1, h2⟩
  · exact .inl h
  · refine .inr ⟨b, c, h1, h2.oth ?_ k x⟩
    rintro rfl
    apply hne
    rw [h1]; rfl
theorem hitL_next (l : List Fd) (k : Nat) (n : ByteArray) (h : k < l.length) : hitL (l.take (k + 1)) n = if eqB (fdAt l k).1 n = true then hitL (l.take k) n ++ [fdAt l k] else hitL (l.take k) n := by
  rw [List.take_succ_eq_append_getElem h, ← fdAt_get h, hitL_snoc]
theorem lastV_hit {l : List Fd} {k : Nat} {n : ByteArray} (h : k < l.length) (hq : eqB (fdAt l k).1 n = true) : lastV (l.take (k + 1)) n = (fdAt l k).2 ∧ cntL (l.take (k + 1)) n = cntL (l.take k) n + 1 := by
  unfold lastV cntL
  rw [hitL_next l k n h, if_pos hq]
  simp
theorem lastV_miss {l : List Fd} {k : Nat} {n : ByteArray} (h : k < l.length) (hq : eqB (fdAt l k).1 n = false) : lastV (l.take (k + 1)) n = lastV (l.take k) n ∧ cntL (l.take (k + 1)) n = cntL (l.take k) n := by
  unfold lastV cntL
  rw [hitL_next l k n h, if_neg (by rw [hq]; decide)]
  exact ⟨rfl, rfl⟩
theorem cntL_le (l : List Fd) (n : ByteArray) : cntL l n ≤ l.length := List.length_filter_le _ _
theorem onlyV_cnt (l : List Fd) (n : ByteArray) : onlyV l n = if cntL l n = 1 then lastV l n else ⟨#[]⟩ := onlyV_last l n
set_option maxRecDepth 100000 in
set_option maxHeartbeats 4000000 in
theorem only_any (v : Value) (l : List Fd) (b n : ByteArray) (w : World) (hv : SlW w v l) (hl : l.length ≤ 1048576) (hz : ∀ x ∈ l, x.1.size ≤ 300 ∧ x.2.size ≤ 300) (hn : n.size ≤ maxLen) :
    Calls Tryd.prog 39 #[.agg #[v, .string b], .string n] w fun e w' => e = .returned (.string (onlyV l (foldB n))) ∧ Below w.heap.size w w' := by
  obtain ⟨a, c0, rfl⟩ := hv.form
  have HF := hideB2 (fun W => Fold_any n W hn)
  have HO := hideB2 (onlyV_cnt l (foldB n))
  generalize onlyV l (foldB n) = O at *
  generalize foldB n = fn at *
  have HV := hideB2 hv
  have HZ := hideB2 hz
  have HB0 := hideB2 (below_a1 w (.cells #[.slice a l.length c0, .string b] 31))
  have A0 := hideB2 (Blk.new w #[.slice a l.length c0, .string b] 31)
  have HL := hideB2 hl
  clear hv hz hn hl
  generalize hm : l.length = m at *
  have HM := hideB2 hm
  clear hm
  go_enter Tryd.func39, Tryd.ntmps39
  go_wp2_with fail
  refine (HF.out _).mono ?_
  rintro e w1 ⟨rfl, hb1⟩
  have HB1 := hideB2 (below_then HB0.out hb1)
  obtain ⟨p0, p1⟩ := (A0.out.later hb1).c2
  clear hb1 A0 HB0 HF
  go_wp2
  clear p0 p1
  go_loopw [5, 6, 15] (fun vo ct i wr => ∃ k : Nat, k ≤ m ∧ i = .int .i64 k ∧ vo = .string (lastV (l.take k) fn) ∧ ct = .int .i64 (cntL (l.take k) fn : Nat) ∧ Below w.heap.size w wr) (fun _ _ i _ => m - (intOf i).toNat)
  case atStart => exact ⟨0, Nat.zero_le _, rfl, rfl, rfl, HB1.out⟩
  case round =>
    obtain ⟨k, hk, rfl, rfl, rfl, hbw⟩ := hrel
    by_cases hlt : k < m
    · have hklt : k < l.length := by rw [HM.out]; exact hlt
      rw [← HM.out] at HV
      obtain ⟨g, rfl, hr⟩ := HV.out.row (by omega)
      rw [HM.out] at HV
      have p0 := (hr.later hbw hr.lt).dat k hklt
      have p1 := (hr.later hbw hr.lt).saf k hklt
      have hcl := cntL_le (l.take k) fn
      rw [List.length_take] at hcl
      have HLL := HL.out
      have e1 : IntKind.i64.wrap (((cntL (l.take k) fn : Nat) : Int) + 1) = ((cntL (l.take k) fn : Nat) : Int) + 1 := by rw [IntKind.wrap_i64]; omega
      have e2 : IntKind.i64.wrap ((k : Int) + 1) = (k : Int) + 1 := by rw [IntKind.wrap_i64]; omega
      have hH := hideB2 (fun h => lastV_hit (l := l) (n := fn) hklt h)
      have hI := hideB2 (fun h => lastV_miss (l := l) (n := fn) hklt h)
      have HBW := hideB2 hbw
      clear hr hklt hcl HLL hbw
      generalize lastV (l.take k) fn = LV at *
      generalize cntL (l.take k) fn = C at *
      generalize hx : fdAt l k = x at *
      clear hx
      obtain ⟨d, t⟩ := x
      simp only at p0 p1 hH hI
      have A1 := hideB2 (Blk.new wr #[.string d, .string t] 56)
      have HB2 := hideB2 (below_then HBW.out (below_a1 wr (.cells #[.string d, .string t] 56)))
      cases hc : eqB d fn
      · obtain ⟨q1, q2⟩ := hI.out hc
        have Q1 := hideB2 q1
        have Q2 := hideB2 q2
        unfold eqB at hc
        clear hH hI q1 q2
        go_wp2
        go_roundw
        case rel => exact ⟨k + 1, by omega, by go_num, by rw [Q1.out], by rw [Q2.out], HB2.out⟩
        case measure => simp [intOf]; omega
      · obtain ⟨q1, q2⟩ := hH.out hc
        have Q1 := hideB2 q1
        have Q2 := hideB2 q2
        unfold eqB at hc
        clear hH hI q1 q2
        go_wp2
        go_roundw
        case rel => exact ⟨k + 1, by omega, by go_num, by rw [Q1.out], by rw [Q2.out]; rfl, HB2.out⟩
        case measure => simp [intOf]; omega
    · obtain rfl : k = m := by omega
      rw [show l.take k = l from List.take_of_length_le (by rw [HM.out]; exact Nat.le_refl _)] at *
      have HBW := hideB2 hbw
      clear hbw HB1
      by_cases h1 : cntL l fn = 1
      · have HE := hideB2 (show O = lastV l fn by rw [HO.out, if_pos h1])
        rw [h1]
        generalize lastV l fn = LV at *
        clear HO h1 hk hlt
        go_wp2
        go_ret
        exact ⟨ret_str HE.out, HBW.out⟩
      · have HE := hideB2 (show O = ⟨#[]⟩ by rw [HO.out, if_neg h1])
        have hb : (((cntL l fn : Nat) : Int) != 1) = true := by rw [bne_iff_ne]; omega
        generalize lastV l fn = LV at *
        generalize cntL l fn = C at *
        clear HO h1 hk hlt
        go_wp2
        go_ret
        exact ⟨ret_str HE.out, HBW.out⟩
theorem brQ_no1 {s : ByteArray} (h : ¬ 3 ≤ s.size) : brQ s = false := by unfold brQ; rw [decide_eq_false h]; rfl
theorem brQ_no2 {s : ByteArray} (h : ¬ (at8 s 0).toNat = 60) : brQ s = false := by unfold brQ; rw [decide_eq_false h]; simp
theorem brQ_last {s : ByteArray} (h : 3 ≤ s.size) (h2 : (at8 s 0).toNat = 60) : brQ s = decide ((at8 s (s.size - 1)).toNat = 62) := by unfold brQ; rw [decide_eq_true h, decide_eq_true h2]; rfl
set_option maxRecDepth 100000 in
set_option maxHeartbeats 2000000 in
theorem bracketed_any (s : ByteArray) (w : World) (hs : s.size ≤ 1048576) :
    Calls Tryd.prog 42 #[.string s] w fun e w' => e = .returned (.bool (brQ s)) ∧ w' = w := by
  by_cases h3 : 3 ≤ s.size
  · have c1 : (3 : Int) ≤ (s.size : Int) := by omega
    have hat0 : s[0] = at8 s 0 := at8_eq s 0 (by omega)
    by_cases h60 : (at8 s 0).toNat = 60
    · rw [brQ_last h3 h60]
      have hb0 : ((at8 s 0).toNat : Int) = 60 := by omega
      have e1 : IntKind.i64.wrap ((s.size : Int) - 1) = ((s.size - 1 : Nat) : Int) := by rw [IntKind.wrap_i64]; omega
      have hat1 : s[s.size - 1] = at8 s (s.size - 1) := at8_eq s (s.size - 1) (by omega)
      have c0 : (0 : Int) < (s.size : Int) := by omega
      have c2 : ((s.size - 1 : Nat) : Int) < (s.size : Int) := by omega
      have c3 : s.size - 1 < s.size := by omega
      by_cases h62 : (at8 s (s.size - 1)).toNat = 62
      · have hb1 : ((at8 s (s.size - 1)).toNat : Int) = 62 := by omega
        rw [decide_eq_true h62]
        go_enter Tryd.func42, Tryd.ntmps42
        go_wp2
        go_ret
        exact ⟨rfl, rfl⟩
      · have hb1 : ¬ ((at8 s (s.size - 1)).toNat : Int) = 62 := by omega
        rw [decide_eq_false h62]
        go_enter Tryd.func42, Tryd.ntmps42
        go_wp2
        go_ret
        exact ⟨ret_bool (by rw [eq_comm, beq_eq_false_iff_ne]; exact hb1), rfl⟩
    · rw [brQ_no2 h60]
      have hb0 : ¬ ((at8 s 0).toNat : Int) = 60 := by omega
      have c0 : (0 : Int) < (s.size : Int) := by omega
      go_enter Tryd.func42, Tryd.ntmps42
      go_wp2
      go_ret
      exact ⟨rfl, rfl⟩
  · rw [brQ_no1 h3]
    have c1 : ¬ (3 : Int) ≤ (s.size : Int) := by omega
    go_enter Tryd.func42, Tryd.ntmps42
    go_wp2
    go_ret
    exact ⟨rfl, rfl⟩
end Go.Proofs.YtffjpidjhcnnmabDoor
