/-
  The walks over chapter 3: a block mixed into five words (spec).
-/
import Derived.Test.YtknpolmenfdheaaD5
namespace Go.Proofs.Ytknpolmenfdheaa
set_option linter.unusedVariables false
set_option linter.unusedSimpArgs false
open Go.RowKit
theorem rowN_new (w : World) (l : List Nat) (t : TypeId) : RowN (w.alloc (.cells (cI l) t)) w.heap.size l :=
  have h := Blk.new w (cI l) t
  ⟨fun j hj => (h.cell j).trans (cI_at l j hj), fun j => h.free j, h.lt⟩
def i5 (a b c d e : Int) : Array Value := #[.int .i64 a, .int .i64 b, .int .i64 c, .int .i64 d, .int .i64 e]
theorem i5_cI (a b c d e : Nat) : i5 a b c d e = cI [a, b, c, d, e] := rfl
set_option maxHeartbeats 1000000 in
theorem sCompress_no (b n cap : Nat) (xs : List Int) (s : ByteArray) (w : World) (hr : RowZ w b xs) (hn : xs.length = n) (hm : n ≤ maxLen) (hs : s.size ≤ maxLen) (h : fiveZ xs = false ∨ s.size ≠ 64) :
    Calls Try.prog 40 #[.slice (some ⟨b, 0, none⟩) n cap, .string s] w fun e w' => e = .returned (.slice none 0 0) ∧ w' = w := by
  have hs' := hs
  unfold maxLen at hs'
  cases h5 : fiveZ xs with
  | false =>
    go_enter Try.func40, Try.ntmps40
    go_wp2_with fail
    refine (l3words_any b n cap xs _ hr hn hm).mono ?_
    rintro e w' ⟨rfl, rfl⟩
    go_wp2
    go_ret
    exact ⟨rfl, rfl⟩
  | true =>
    have hne : ((s.size : Int) != 64) = true := by
      rw [bne_iff_ne]
      rcases h with h | h
      · rw [h5] at h; cases h
      · omega
    go_enter Try.func40, Try.ntmps40
    go_wp2_with fail
    refine (l3words_any b n cap xs _ hr hn hm).mono ?_
    rintro e w' ⟨rfl, rfl⟩
    go_wp2
    go_ret
    exact ⟨rfl, rfl⟩
set_option maxHeartbeats 4000000 in
theorem sCompress_any (b cap : Nat) (h : List Nat) (s : ByteArray) (w : World) (hr : RowN w b h) (hh : Five h) (hl : s.size = 64) :
    Calls Try.prog 40 #[.slice (some ⟨b, 0, none⟩) 5 cap, .string s] w fun e w' => ∃ b', e = .returned (.slice (some ⟨b', 0, none⟩) 5 5) ∧ w.heap.size ≤ b' ∧ RowN w' b' (comp h s.data.toList) ∧ Below w.heap.size w w' := by
  have hne : ((s.size : Int) != 64) = false := by rw [bne_eq_false_iff_eq]; omega
  have h5 := fiveZ_of hh
  have HL := hideB2 hl
  have HR := hideB2 hr
  have HH := hideB2 hh
  clear hl hr hh
  go_enter Try.func40, Try.ntmps40
  go_wp2_with fail
  refine (l3words_any b 5 cap (nz h) _ HR.out.z (by rw [nz_len]; exact HH.out.1) (by unfold maxLen; omega)).mono ?_
  rintro e w' ⟨rfl, rfl⟩
  go_wp2_with fail
  refine (sSchedule_any s _ HL.out).mono ?_
  rintro e w1 ⟨rfl, hrow, hb1⟩
  have hk := HR.out.keep hb1
  have hc := fun j (hj : j < 5) => hk.cell j (by rw [HH.out.1]; exact hj)
  have c0 := hc 0 (by omega)
  have c1 := hc 1 (by omega)
  have c2 := hc 2 (by omega)
  have c3 := hc 3 (by omega)
  have c4 := hc 4 (by omega)
  have HC := hideB2 (show comp h s.data.toList = sumUp h (rnds (schL s.data.toList 80) (stOf h) 80) from rfl)
  have HWS := hideB2 (schL_lt s.data.toList 80)
  have HWL := hideB2 (schL_len s.data.toList 80)
  have H1 := hideB2 hk
  have H5 := hideB2 hrow
  have HB := hideB2 hb1
  have hok := hideB2 HH.out.ok
  clear hc hk hrow hb1
  generalize schL s.data.toList 80 = L at *
  go_wp2
  clear c0 c1 c2 c3 c4
  go_loopw [6, 7, 8, 9, 10, 11] (fun sa sb sc sd se i wr => ∃ t : Nat, t ≤ 80 ∧ i = .int .i64 t ∧ sa = .int .i64 ((rnds L (stOf h) t).a : Int) ∧ sb = .int .i64 ((rnds L (stOf h) t).b : Int) ∧ sc = .int .i64 ((rnds L (stOf h) t).c : Int) ∧ sd = .int .i64 ((rnds L (stOf h) t).d : Int) ∧ se = .int .i64 ((rnds L (stOf h) t).e : Int) ∧ RowN wr b h ∧ RowN wr w'.heap.size L ∧ Below w'.heap.size w' wr) (fun _ _ _ _ _ i _ => 80 - (intOf i).toNat)
  case atStart => exact ⟨0, Nat.zero_le _, rfl, rfl, rfl, rfl, rfl, rfl, H1.out, H5.out, HB.out⟩
  case round =>
    obtain ⟨t, ht, rfl, rfl, rfl, rfl, rfl, rfl, h1, h5', hb⟩ := hrel
    clear H1 H5 HB
    obtain ⟨k1, k2, k3, k4, k5⟩ := rnds_ok (W := L) hok.out t
    by_cases hlt : t < 80
    · have hct := h5'.cell t (by rw [HWL.out]; exact hlt)
      have hstep : Hid (rnds L (stOf h) (t + 1) = rnd L t (rnds L (stOf h) t)) := rfl
      have H1 := hideB2 h1
      have H5 := hideB2 h5'
      have HB := hideB2 hb
      have hw := getD_lt (B := 4294967296) (by decide) HWS.out t
      clear h1 h5' hb
      generalize rnds L (stOf h) t = st at *
      obtain ⟨a, b2, c, d, e⟩ := st
      simp only at *
      have hf := fOf_lt t b2 c d k2 k3 k4
      have hk := kOf_lt t
      have hr := rotl_lt a 5 k1
      have hrn : Hid (rnd L t ⟨a, b2, c, d, e⟩ = ⟨(rotl a 5 + fOf t b2 c d + e + L.getD t 0 + kOf t) % 4294967296, a, rotl b2 30, c, d⟩) := rfl
      have hmk := mask32_i64 (rotl a 5 + fOf t b2 c d + e + L.getD t 0 + kOf t) (by omega)
      have ecast : (((rotl a 5 + fOf t b2 c d + e + L.getD t 0 + kOf t) : Nat) : Int) = (rotl a 5 : Int) + (fOf t b2 c d : Int) + (e : Int) + ((L.getD t 0 : Nat) : Int) + (kOf t : Int) := by omega
      rw [ecast] at hmk
      clear ecast
      generalize hx : L.getD t 0 = x at *
      have HX := hideB2 hx
      clear hx
      have hp : t ≤ 79 := by omega
      go_wp2
      refine wp_region_quiet_lit ?_ ?_ ?_
      · kernel_rfl
      · kernel_rfl
      repeat (go_big_quiet_step ((first | (go_at_call 46; exact Calls.quiet_of (l3turn_any a 5 _ k1 (by omega))) | (go_at_call 47; exact Calls.quiet_of_same (l3f_any t b2 c d _ hp k2 k3 k4)) | (go_at_call 48; exact Calls.quiet_of_same (l3k_any t _ hp)))))
      refine wpQuiet_nil ?_
      rintro _ ⟨nq, rfl⟩
      go_wp2_with fail
      refine (l3turn_any b2 30 _ k2 (by omega)).mono ?_
      rintro e' w2 ⟨rfl, nq2, rfl⟩
      go_wp2
      refine ⟨⟨t + 1, by omega, by go_num, ?_, ?_, ?_, ?_, ?_, H1.out.drewN _, H5.out.drewN _, below_drewN HB.out _⟩, by simp [intOf]; omega⟩
      all_goals rw [hstep.out, hrn.out]
      refine congrArg (Value.int .i64) ?_
      show _ = (((rotl a 5 + fOf t b2 c d + e + x + kOf t) % 4294967296 : Nat) : Int)
      omega
    · obtain rfl : t = 80 := by omega
      have hc := fun j (hj : j < 5) => h1.cell j (by rw [HH.out.1]; exact hj)
      have c0 := hc 0 (by omega)
      have c1 := hc 1 (by omega)
      have c2 := hc 2 (by omega)
      have c3 := hc 3 (by omega)
      have c4 := hc 4 (by omega)
      have hgl := getD_lt (B := 4294967296) (by decide) HH.out.2
      have g0 := hgl 0
      have g1 := hgl 1
      have g2 := hgl 2
      have g3 := hgl 3
      have g4 := hgl 4
      have HB := hideB2 hb
      have hsum : Hid (sumUp h (rnds L (stOf h) 80) = [(h.getD 0 0 + (rnds L (stOf h) 80).a) % 4294967296, (h.getD 1 0 + (rnds L (stOf h) 80).b) % 4294967296, (h.getD 2 0 + (rnds L (stOf h) 80).c) % 4294967296, (h.getD 3 0 + (rnds L (stOf h) 80).d) % 4294967296, (h.getD 4 0 + (rnds L (stOf h) 80).e) % 4294967296]) := rfl
      clear hc hgl h1 h5' hb
      generalize rnds L (stOf h) 80 = st at *
      obtain ⟨a, b2, c, d, e⟩ := st
      simp only at *
      generalize h.getD 0 0 = y0 at *
      generalize h.getD 1 0 = y1 at *
      generalize h.getD 2 0 = y2 at *
      generalize h.getD 3 0 = y3 at *
      generalize h.getD 4 0 = y4 at *
      have mk : ∀ x y : Nat, x < 4294967296 → y < 4294967296 → bits .and .i64 ((x : Int) + (y : Int)) 4294967295 = (((x + y) % 4294967296 : Nat) : Int) := by
        intro x y hx hy
        have := mask32_i64 (x + y) (by omega)
        rwa [show ((x + y : Nat) : Int) = (x : Int) + (y : Int) by omega] at this
      have m0 := mk y0 a g0 k1
      have m1 := mk y1 b2 g1 k2
      have m2 := mk y2 c g2 k3
      have m3 := mk y3 d g3 k4
      have m4 := mk y4 e g4 k5
      clear mk
      go_wp2
      refine wp_region_draws_tail 30 ?_ ?_ ?_
      · kernel_rfl
      · kernel_rfl
      simp only [List.take_succ_cons, List.take_zero, List.drop_succ_cons, List.drop_zero]
      repeat (go_big_quiet_step (fail))
      refine wpQuiet_nil ?_
      rintro _ ⟨nq, rfl⟩
      go_wp2
      go_ret
      have ec : ∀ x y : Nat, ((x : Int) + (y : Int)) % 4294967296 = (((x + y) % 4294967296 : Nat) : Int) := by intro x y; omega
      rw [HC.out, hsum.out, ec, ec, ec, ec, ec]
      exact ⟨wr.heap.size, rfl, HB.out.size, rowN_new (wr.drewN nq) [_, _, _, _, _] _, (below_drewN HB.out nq).alloc HB.out.size _⟩
end Go.Proofs.Ytknpolmenfdheaa
