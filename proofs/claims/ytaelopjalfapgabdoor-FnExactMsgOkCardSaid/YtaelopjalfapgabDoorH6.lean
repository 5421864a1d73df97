/-
  Chapter 6: messages in the laws: copies, sizes, comparisons.
-/
import Derived.Test.YtaelopjalfapgabDoorH1
import Derived.Deep.DeepCutAuto
namespace Go.Proofs.YtaelopjalfapgabDoor
set_option linter.unusedVariables false
set_option linter.unusedSimpArgs false
open Go.RowKit
theorem Blk.f7 {w : World} {g : Nat} {c : Array Value} {t : TypeId} (H : Blk w g c t) : w.frozen? ⟨g, 0, none⟩ = false ∧ w.frozen? ⟨g, 1, none⟩ = false ∧ w.frozen? ⟨g, 2, none⟩ = false ∧ w.frozen? ⟨g, 3, none⟩ = false ∧ w.frozen? ⟨g, 4, none⟩ = false ∧ w.frozen? ⟨g, 5, none⟩ = false ∧ w.frozen? ⟨g, 6, none⟩ = false := ⟨H.free 0, H.free 1, H.free 2, H.free 3, H.free 4, H.free 5, H.free 6⟩
theorem Blk.set7 {w : World} {g : Nat} {a b c d e f h : Value} {t : TypeId} (H : Blk w g #[a, b, c, d, e, f, h] t) (x0 x1 x2 x3 x4 x5 x6 : Value) : Blk (((((((w.setCell ⟨g, 0, none⟩ x0).setCell ⟨g, 1, none⟩ x1).setCell ⟨g, 2, none⟩ x2).setCell ⟨g, 3, none⟩ x3).setCell ⟨g, 4, none⟩ x4).setCell ⟨g, 5, none⟩ x5).setCell ⟨g, 6, none⟩ x6) g #[x0, x1, x2, x3, x4, x5, x6] t := by
  have h0 : Blk (w.setCell ⟨g, 0, none⟩ x0) g #[x0, b, c, d, e, f, h] t := H.set 0 x0
  have h1 : Blk ((w.setCell ⟨g, 0, none⟩ x0).setCell ⟨g, 1, none⟩ x1) g #[x0, x1, c, d, e, f, h] t := h0.set 1 x1
  have h2 : Blk (((w.setCell ⟨g, 0, none⟩ x0).setCell ⟨g, 1, none⟩ x1).setCell ⟨g, 2, none⟩ x2) g #[x0, x1, x2, d, e, f, h] t := h1.set 2 x2
  have h3 : Blk ((((w.setCell ⟨g, 0, none⟩ x0).setCell ⟨g, 1, none⟩ x1).setCell ⟨g, 2, none⟩ x2).setCell ⟨g, 3, none⟩ x3) g #[x0, x1, x2, x3, e, f, h] t := h2.set 3 x3
  have h4 : Blk (((((w.setCell ⟨g, 0, none⟩ x0).setCell ⟨g, 1, none⟩ x1).setCell ⟨g, 2, none⟩ x2).setCell ⟨g, 3, none⟩ x3).setCell ⟨g, 4, none⟩ x4) g #[x0, x1, x2, x3, x4, f, h] t := h3.set 4 x4
  have h5 : Blk ((((((w.setCell ⟨g, 0, none⟩ x0).setCell ⟨g, 1, none⟩ x1).setCell ⟨g, 2, none⟩ x2).setCell ⟨g, 3, none⟩ x3).setCell ⟨g, 4, none⟩ x4).setCell ⟨g, 5, none⟩ x5) g #[x0, x1, x2, x3, x4, x5, h] t := h4.set 5 x5
  have h6 : Blk (((((((w.setCell ⟨g, 0, none⟩ x0).setCell ⟨g, 1, none⟩ x1).setCell ⟨g, 2, none⟩ x2).setCell ⟨g, 3, none⟩ x3).setCell ⟨g, 4, none⟩ x4).setCell ⟨g, 5, none⟩ x5).setCell ⟨g, 6, none⟩ x6) g #[x0, x1, x2, x3, x4, x5, x6] t := h5.set 6 x6
  exact h6
theorem Blk.oth7 {w : World} {b g : Nat} {c : Array Value} {t : TypeId} (H : Blk w b c t) (hne : g ≠ b) (x0 x1 x2 x3 x4 x5 x6 : Value) : Blk (((((((w.setCell ⟨g, 0, none⟩ x0).setCell ⟨g, 1, none⟩ x1).setCell ⟨g, 2, none⟩ x2).setCell ⟨g, 3, none⟩ x3).setCell ⟨g, 4, none⟩ x4).setCell ⟨g, 5, none⟩ x5).setCell ⟨g, 6, none⟩ x6) b c t := ((((((H.other hne 0 x0).other hne 1 x1).other hne 2 x2).other hne 3 x3).other hne 4 x4).other hne 5 x5).other hne 6 x6
theorem RowF.oth7 {w : World} {b g : Nat} {l : List Fd} (H : RowF w b l) (hne : g ≠ b) (x0 x1 x2 x3 x4 x5 x6 : Value) : RowF (((((((w.setCell ⟨g, 0, none⟩ x0).setCell ⟨g, 1, none⟩ x1).setCell ⟨g, 2, none⟩ x2).setCell ⟨g, 3, none⟩ x3).setCell ⟨g, 4, none⟩ x4).setCell ⟨g, 5, none⟩ x5).setCell ⟨g, 6, none⟩ x6) b l := ((((((H.other hne 0 x0).other hne 1 x1).other hne 2 x2).other hne 3 x3).other hne 4 x4).other hne 5 x5).other hne 6 x6
theorem below_set7 {B g : Nat} {w0 w : World} (H : Below B w0 w) (hg : B ≤ g) (x0 x1 x2 x3 x4 x5 x6 : Value) : Below B w0 (((((((w.setCell ⟨g, 0, none⟩ x0).setCell ⟨g, 1, none⟩ x1).setCell ⟨g, 2, none⟩ x2).setCell ⟨g, 3, none⟩ x3).setCell ⟨g, 4, none⟩ x4).setCell ⟨g, 5, none⟩ x5).setCell ⟨g, 6, none⟩ x6) := ((((((H.setCell (p := ⟨g, 0, none⟩) hg x0).setCell (p := ⟨g, 1, none⟩) hg x1).setCell (p := ⟨g, 2, none⟩) hg x2).setCell (p := ⟨g, 3, none⟩) hg x3).setCell (p := ⟨g, 4, none⟩) hg x4).setCell (p := ⟨g, 5, none⟩) hg x5).setCell (p := ⟨g, 6, none⟩) hg x6
theorem Tryd.infoMsg : (Tryd.prog.info? 29).map (·.size) = some 7 := by kernel_rfl
/-- All that a message holds. -/
def totM (me ta re bo : ByteArray) (len : Nat) (fs : List Fd) : Nat := me.size + ta.size + re.size + len + totF fs + bo.size
set_option maxHeartbeats 1000000 in
theorem szFieldS_left (a : Option Addr) (len cap : Nat) (l : List Fd) (left : Int) (w : World) (hx : ArgF w a len l) (hl : len ≤ maxLen) (hd : ∀ j, j < len → (fdAt l j).1.size ≤ maxLen ∧ (fdAt l j).2.size ≤ maxLen) (hl0 : 0 ≤ left) (hl1 : left ≤ 1048576) :
    Calls Tryd.prog 20 #[.slice a len cap, .int .i64 left] w fun e w' => e = .returned (.int .i64 (if (len : Int) + (totF l : Int) ≤ left then left - (len : Int) - (totF l : Int) else -1)) ∧ Below w.heap.size w w' := by
  obtain ⟨hlen, hx⟩ := hx
  have HL := hideB2 hlen
  have HX := hideB2 hx
  have HD := hideB2 hd
  clear hlen hx hd
  unfold maxLen at hl
  generalize hR : (if (len : Int) + (totF l : Int) ≤ left then left - (len : Int) - (totF l : Int) else -1) = R
  have HR := hideB2 hR
  clear hR
  by_cases h0 : (len : Int) ≤ left
  · go_enter Tryd.func20, Tryd.ntmps20
    go_wp2
    go_loopw [1, 5] (fun x i wr => ∃ k : Nat, k ≤ len ∧ i = .int .i64 k ∧ x = .int .i64 (left - (len : Int) - (totF (l.take k) : Int)) ∧ (len : Int) + (totF (l.take k) : Int) ≤ left ∧ Below w.heap.size w wr) (fun _ i _ => len - (intOf i).toNat)
    case atStart => exact ⟨0, Nat.zero_le _, rfl, by simp [totF], by simp [totF]; exact h0, Below.refl _ _⟩
    case round =>
      obtain ⟨k, hk, rfl, rfl, hle, hb⟩ := hrel
      by_cases hlt : k < len
      · rcases HX.out with h0 | ⟨b, off, rfl, hbl, hcs⟩
        · omega
        · obtain ⟨hc0, hc1⟩ := hcs k hlt
          rw [← hb.cell (p := ⟨b, off + k * 2, none⟩) hbl] at hc0
          rw [← hb.cell (p := ⟨b, off + k * 2 + 1, none⟩) hbl] at hc1
          have hnx := totF_next l k (by rw [HL.out]; exact hlt)
          have hat := totF_at l k (by rw [HL.out]; exact hlt)
          have hdk := HD.out k hlt
          generalize hx0 : fdAt l k = x at *
          obtain ⟨d, s⟩ := x
          simp only at hc0 hc1 hnx hat hdk
          have HNX := hideB2 hnx
          have HAT := hideB2 hat
          clear hx0 hcs HX hnx hat
          generalize totF (l.take k) = t at *
          go_wp2_with fail
          refine (szField_any d s _ _ hdk.1 hdk.2 (by omega) (by omega)).mono ?_
          rintro e w2 ⟨rfl, hb2⟩
          have HB2 := hideB2 (hb.trans (hb2.mono hb.size))
          clear hb hb2 hc0 hc1
          by_cases hf : (szF (d, s) : Int) ≤ left - (len : Int) - (t : Int)
          · rw [if_pos hf]
            go_wp2
            exact ⟨⟨k + 1, by omega, by go_num, by rw [HNX.out]; congr 1; omega, by rw [HNX.out]; omega, HB2.out⟩, by simp [intOf]; omega⟩
          · rw [if_neg hf]
            go_wp2
            go_ret
            exact ⟨ret_int (by rw [← HR.out, if_neg]; have := HAT.out; omega), HB2.out⟩
      · obtain rfl : k = len := by omega
        rw [List.take_of_length_le (by rw [HL.out]; exact Nat.le_refl _)] at hle
        rw [List.take_of_length_le (by rw [HL.out]; exact Nat.le_refl _)]
        have HF := hideB2 (show left - (k : Int) - (totF l : Int) = R by rw [← HR.out, if_pos hle])
        go_wp2
        go_ret
        exact ⟨ret_int HF.out.symm, hb⟩
  · have hn : ¬ ((len : Int) + (totF l : Int) ≤ left) := by omega
    have HF := hideB2 (show -1 = R by rw [← HR.out, if_neg hn])
    go_enter Tryd.func20, Tryd.ntmps20
    go_wp2
    go_ret
    exact ⟨ret_int HF.out.symm, Below.refl _ _⟩
/-- What is asked of a message that came in. -/
structure ArgM (w : World) (me ta re bo : ByteArray) (fa : Option Addr) (fn : Nat) (fs : List Fd) : Prop where
  row : ArgF w fa fn fs
  len : fn ≤ maxLen
  each : ∀ j, j < fn → (fdAt fs j).1.size ≤ maxLen ∧ (fdAt fs j).2.size ≤ maxLen
  zme : me.size ≤ maxLen
  zta : ta.size ≤ maxLen
  zre : re.size ≤ maxLen
  zbo : bo.size ≤ maxLen
theorem ArgM.later {w w' : World} {me ta re bo : ByteArray} {fa : Option Addr} {fn : Nat} {fs : List Fd} (h : ArgM w me ta re bo fa fn fs) (k : Below w.heap.size w w') : ArgM w' me ta re bo fa fn fs := { h with row := h.row.later k }
set_option maxHeartbeats 2000000 in
theorem szMsg_any (me ta re bo : ByteArray) (st : Int) (ba : Bool) (fa : Option Addr) (fn fc : Nat) (fs : List Fd) (w : World) (hm : ArgM w me ta re bo fa fn fs) :
    Calls Tryd.prog 7 #[.agg #[.string me, .string ta, .int .i64 st, .string re, .bool ba, .slice fa fn fc, .string bo], .int .i64 1048576] w fun e w' => ∃ r : Int, e = .returned (.int .i64 r) ∧ (¬ r < 0 → totM me ta re bo fn fs ≤ 1048576) ∧ Below w.heap.size w w' := by
  have HB := hideB2 (below_a1 w (.cells #[.string me, .string ta, .int .i64 st, .string re, .bool ba, .slice fa fn fc, .string bo] 24))
  have A1 := hideB2 (Blk.new w #[.string me, .string ta, .int .i64 st, .string re, .bool ba, .slice fa fn fc, .string bo] 24)
  have HT := hideB2 (show totM me ta re bo fn fs = me.size + ta.size + re.size + fn + totF fs + bo.size from rfl)
  obtain ⟨hx, hl, hd, z1, z2, z3, z4⟩ := hm
  have HZ := hideB2 (fun left h0 h1 => szFieldS_left fa fn fc fs left _ (hx.later (below_a1 w (.cells #[.string me, .string ta, .int .i64 st, .string re, .bool ba, .slice fa fn fc, .string bo] 24))) hl hd h0 h1)
  generalize totM me ta re bo fn fs = T at *
  unfold maxLen at z1 z2 z3 z4 hl
  clear hx hd
  by_cases h1 : (1048576 : Int) - (me.size : Int) < 0
  · go_enter Tryd.func7, Tryd.ntmps7
    go_wp2
    go_ret
    exact ⟨_, rfl, fun h => by omega, HB.out⟩
  · by_cases h2 : (1048576 : Int) - (me.size : Int) - (ta.size : Int) < 0
    · go_enter Tryd.func7, Tryd.ntmps7
      go_wp2
      go_ret
      exact ⟨_, rfl, fun h => by omega, HB.out⟩
    · by_cases h3 : (1048576 : Int) - (me.size : Int) - (ta.size : Int) - (re.size : Int) < 0
      · go_enter Tryd.func7, Tryd.ntmps7
        go_wp2
        go_ret
        exact ⟨_, rfl, fun h => by omega, HB.out⟩
      · have HZ2 := hideB2 (HZ.out _ (show (0 : Int) ≤ (1048576 : Int) - (me.size : Int) - (ta.size : Int) - (re.size : Int) by omega) (by omega))
        clear HZ
        by_cases h4 : (fn : Int) + (totF fs : Int) ≤ (1048576 : Int) - (me.size : Int) - (ta.size : Int) - (re.size : Int)
        · rw [if_pos h4] at HZ2
          generalize totF fs = F at *
          by_cases h5 : (1048576 : Int) - (me.size : Int) - (ta.size : Int) - (re.size : Int) - (fn : Int) - (F : Int) - (bo.size : Int) < 0
          · go_enter Tryd.func7, Tryd.ntmps7
            go_wp2_with (go_at_call 20; refine HZ2.out.mono ?_; rintro e w2 ⟨rfl, hb2⟩; obtain ⟨p0, p1, p2, p3, p4, p5, p6⟩ := (A1.out.later hb2).c7)
            go_ret
            exact ⟨_, rfl, fun h => by omega, below_then HB.out hb2⟩
          · go_enter Tryd.func7, Tryd.ntmps7
            go_wp2_with (go_at_call 20; refine HZ2.out.mono ?_; rintro e w2 ⟨rfl, hb2⟩; obtain ⟨p0, p1, p2, p3, p4, p5, p6⟩ := (A1.out.later hb2).c7)
            go_ret
            exact ⟨_, rfl, fun _ => by rw [HT.out]; omega, below_then HB.out hb2⟩
        · rw [if_neg h4] at HZ2
          go_enter Tryd.func7, Tryd.ntmps7
          go_wp2_with (go_at_call 20; refine HZ2.out.mono ?_; rintro e w2 ⟨rfl, hb2⟩; obtain ⟨p0, p1, p2, p3, p4, p5, p6⟩ := (A1.out.later hb2).c7)
          go_ret
          exact ⟨_, rfl, fun h => by omega, below_then HB.out hb2⟩
/-- A message of the call's own: the row of its fields is new. -/
structure OwnM (w0 w : World) (g fn : Nat) (fs : List Fd) : Prop where
  row : RowF w g fs
  new : w0.heap.size ≤ g
  below : Below w0.heap.size w0 w
set_option maxHeartbeats 4000000 in
theorem toMsg_any (me ta re bo : ByteArray) (st : Int) (ba : Bool) (fa : Option Addr) (fn fc : Nat) (fs : List Fd) (w : World) (hx : ArgF w fa fn fs) (hl : fn ≤ 1048576) :
    Calls Tryd.prog 9 #[.agg #[.string me, .string ta, .int .i64 st, .string re, .bool ba, .slice fa fn fc, .string bo]] w fun e w' => ∃ g, e = .returned (.agg #[.string me, .string ta, .int .i64 st, .string re, .bool ba, .slice (some ⟨g, 0, none⟩) fn fn, .string bo]) ∧ OwnM w w' g fn fs := by
  have HX := hideB2 hx
  clear hx
  have Ba := blk_a w #[.string me, .string ta, .int .i64 st, .string re, .bool ba, .slice fa fn fc, .string bo] 24 (.cells #[.string ⟨#[]⟩, .string ⟨#[]⟩, .int .i64 0, .string ⟨#[]⟩, .bool false, .slice none 0 0, .string ⟨#[]⟩] 29) (.cells #[.string me, .string ta, .int .i64 st, .string re, .bool ba, .slice none 0 0, .string ⟨#[]⟩] 29)
  have Bb := blk_b w #[.string ⟨#[]⟩, .string ⟨#[]⟩, .int .i64 0, .string ⟨#[]⟩, .bool false, .slice none 0 0, .string ⟨#[]⟩] 29 (.cells #[.string me, .string ta, .int .i64 st, .string re, .bool ba, .slice fa fn fc, .string bo] 24) (.cells #[.string me, .string ta, .int .i64 st, .string re, .bool ba, .slice none 0 0, .string ⟨#[]⟩] 29)
  have Bc := blk_c w #[.string me, .string ta, .int .i64 st, .string re, .bool ba, .slice none 0 0, .string ⟨#[]⟩] 29 (.cells #[.string me, .string ta, .int .i64 st, .string re, .bool ba, .slice fa fn fc, .string bo] 24) (.cells #[.string ⟨#[]⟩, .string ⟨#[]⟩, .int .i64 0, .string ⟨#[]⟩, .bool false, .slice none 0 0, .string ⟨#[]⟩] 29)
  have hb3 := below_a3 w (.cells #[.string me, .string ta, .int .i64 st, .string re, .bool ba, .slice fa fn fc, .string bo] 24) (.cells #[.string ⟨#[]⟩, .string ⟨#[]⟩, .int .i64 0, .string ⟨#[]⟩, .bool false, .slice none 0 0, .string ⟨#[]⟩] 29) (.cells #[.string me, .string ta, .int .i64 st, .string re, .bool ba, .slice none 0 0, .string ⟨#[]⟩] 29)
  go_enter Tryd.func9, Tryd.ntmps9
  go_wp2_with fail
  generalize hW : (((w.alloc (.cells #[.string me, .string ta, .int .i64 st, .string re, .bool ba, .slice fa fn fc, .string bo] 24)).alloc (.cells #[.string ⟨#[]⟩, .string ⟨#[]⟩, .int .i64 0, .string ⟨#[]⟩, .bool false, .slice none 0 0, .string ⟨#[]⟩] 29)).alloc (.cells #[.string me, .string ta, .int .i64 st, .string re, .bool ba, .slice none 0 0, .string ⟨#[]⟩] 29)) = W3 at *
  clear hW
  have hA := HX.out.later hb3
  have hlt := Bc.lt
  refine (toFieldS_any fa fn fc fs _ hA hl).mono ?_
  rintro e w4 ⟨rfl, hr4, hb4⟩
  have HBb := hideB2 (Bb.later hb4)
  have HBc := hideB2 (Bc.later hb4)
  have HR := hideB2 hr4
  have HB4 := hideB2 (below_then hb3 hb4)
  obtain ⟨a0, a1, a2, a3, a4, a5, a6⟩ := (Ba.later hb4).c7
  obtain ⟨b0, b1, b2, b3, b4, b5, b6⟩ := (Bb.later hb4).c7
  obtain ⟨c0, c1, c2, c3, c4, c5, c6⟩ := (Bc.later hb4).c7
  obtain ⟨g0, g1, g2, g3, g4, g5, g6⟩ := (Bb.later hb4).f7
  obtain ⟨k0, k1, k2, k3, k4, k5, k6⟩ := (Bc.later hb4).f7
  generalize hG : W3.heap.size = G at *
  have HG := hideB2 hG
  clear hG Ba Bb Bc hb3 hA hr4 hb4
  go_wp2
  refine bodyPost_ret (results_cellS rfl _ _ _ rfl (((HBb.out.other (by omega) 5 _).other (by omega) 6 _).set7 _ _ _ _ _ _ _) Tryd.underlying29 Tryd.infoMsg) rfl ⟨G, rfl, ?_, by omega, ?_⟩
  · exact ((HR.out.other (by omega) 5 _).other (by omega) 6 _).oth7 (by omega) _ _ _ _ _ _ _
  · exact below_set7 ((HB4.out.setCell (p := ⟨w.heap.size + 1 + 1, 5, none⟩) (by show w.heap.size ≤ w.heap.size + 1 + 1; omega) _).setCell (p := ⟨w.heap.size + 1 + 1, 6, none⟩) (by show w.heap.size ≤ w.heap.size + 1 + 1; omega) _) (by omega) _ _ _ _ _ _ _
set_option maxHeartbeats 2000000 in
theorem eqMsg_same (me ta re bo : ByteArray) (st : Int) (ba : Bool) (fa : Option Addr) (fn fc : Nat) (fs : List Fd) (ga : Option Addr) (gc : Nat) (w : World) (ha : SlF w (.slice fa fn fc) fs) (hb : SlF w (.slice ga fn gc) fs) (hm : fs.length ≤ 1048576) :
    Calls Tryd.prog 11 #[.agg #[.string me, .string ta, .int .i64 st, .string re, .bool ba, .slice fa fn fc, .string bo], .agg #[.string me, .string ta, .int .i64 st, .string re, .bool ba, .slice ga fn gc, .string bo]] w fun e w' => e = .returned (.bool true) ∧ Below w.heap.size w w' := by
  have HB := hideB2 (below_a2 w (.cells #[.string me, .string ta, .int .i64 st, .string re, .bool ba, .slice fa fn fc, .string bo] 29) (.cells #[.string me, .string ta, .int .i64 st, .string re, .bool ba, .slice ga fn gc, .string bo] 29))
  have A1 := hideB2 ((Blk.new w #[.string me, .string ta, .int .i64 st, .string re, .bool ba, .slice fa fn fc, .string bo] 29).alloc (.cells #[.string me, .string ta, .int .i64 st, .string re, .bool ba, .slice ga fn gc, .string bo] 29))
  have A2 := hideB2 (show Blk ((w.alloc (.cells #[.string me, .string ta, .int .i64 st, .string re, .bool ba, .slice fa fn fc, .string bo] 29)).alloc (.cells #[.string me, .string ta, .int .i64 st, .string re, .bool ba, .slice ga fn gc, .string bo] 29)) (w.heap.size + 1) #[.string me, .string ta, .int .i64 st, .string re, .bool ba, .slice ga fn gc, .string bo] 29 by
    have := Blk.new (w.alloc (.cells #[.string me, .string ta, .int .i64 st, .string re, .bool ba, .slice fa fn fc, .string bo] 29)) #[.string me, .string ta, .int .i64 st, .string re, .bool ba, .slice ga fn gc, .string bo] 29
    simpa using this)
  have HE := hideB2 (fun W h1 h2 => eqFieldS_same (.slice fa fn fc) (.slice ga fn gc) fs W h1 h2 hm)
  have HA := hideB2 ha
  have HC := hideB2 hb
  clear ha hb
  have e1 : (me.toList == me.toList) = true := by simp
  have e2 : (ta.toList == ta.toList) = true := by simp
  have e3 : (re.toList == re.toList) = true := by simp
  have e4 : (bo.toList == bo.toList) = true := by simp
  go_enter Tryd.func11, Tryd.ntmps11
  go_wp2_with (go_at_call 30; refine (HE.out _ (HA.out.later HB.out) (HC.out.later HB.out)).mono ?_; rintro e w3 ⟨rfl, hb3⟩; obtain ⟨p0, p1, p2, p3, p4, p5, p6⟩ := (A1.out.later hb3).c7; obtain ⟨q0, q1, q2, q3, q4, q5, q6⟩ := (A2.out.later hb3).c7)
  go_ret
  exact ⟨rfl, below_then HB.out hb3⟩
end Go.Proofs.YtaelopjalfapgabDoor
