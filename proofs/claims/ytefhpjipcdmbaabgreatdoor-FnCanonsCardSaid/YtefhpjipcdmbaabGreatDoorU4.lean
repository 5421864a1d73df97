/-
  Chapter 7: what a % stands for, and a text cut; the specification's side.
-/
import Derived.Test.YtefhpjipcdmbaabGreatDoorU1
import Derived.Test.YtefhpjipcdmbaabGreatDoorUSp
import Derived.Test.YtefhpjipcdmbaabGreatDoorBK
import Derived.Test.YtefhpjipcdmbaabGreatDoorQT
namespace Go.Proofs.YtefhpjipcdmbaabGreatDoor
set_option linter.unusedVariables false
set_option linter.unusedSimpArgs false
open Go.RowKit
theorem Buf.drewU {w0 w : World} {v : Value} {l : List UInt8} (h : Buf w0 w v l) : Buf w0 w.drew v l := ⟨h.below.drew, h.own⟩
theorem Buf.drewNU {w0 w : World} {v : Value} {l : List UInt8} (h : Buf w0 w v l) (n : Nat) : Buf w0 (w.drewN n) v l :=
  ⟨below_drewN h.below n, h.own.kept (⟨rfl, rfl, rfl, Nat.le_refl _, fun _ _ _ => rfl⟩ : w.grownBy (w.drewN n) none) (by simp; exact Classical.em _)⟩
theorem three_cells (W : World) (y0 y1 y2 : UInt8) : ∀ (j : Nat) (v : Value), [c8 y0, c8 y1, c8 y2][j]? = some v → (W.alloc (.cells #[c8 y0, c8 y1, c8 y2] 5)).cell? ((⟨W.heap.size, 0, none⟩ : Addr).add j) = some v := by
  intro j v hv
  rw [Addr.add_lit, Nat.zero_add, (Blk.new W #[c8 y0, c8 y1, c8 y2] 5).cell j]
  simpa using hv
/-- append(buf, three bytes). -/
theorem wp_app3 {ops : Array Oper} {rest : List Oper} {o : Oper} {a : Act} {Q : Exit → Act → World → Prop} {W : World} (hgd : o.guard = none) (s x : Operand)
    (ho : o.op = .call { callee := .builtin .append, args := #[s, x], argTypes := #[28, 28] }) (w0 : World) (v : Value) (l : List UInt8) (hs : a.eval s = v) (hbuf : Buf w0 W v l)
    (n0 n1 n2 : Int) (y0 y1 y2 : UInt8) (h0 : n0 = (y0.toNat : Int)) (h1 : n1 = (y1.toNat : Int)) (h2 : n2 = (y2.toNat : Int)) (hx : a.eval x = .slice (some ⟨W.heap.size, 0, none⟩) 3 3) (hlen : l.length ≤ 1099511627776)
    (h : ∀ v' W', Buf w0 W' v' (l ++ [y0, y1, y2]) → wpList Tryz.prog ops Q rest (a.put o.dst v') W') :
    wpList Tryz.prog ops Q (o :: rest) a (W.alloc (.cells #[.int .u8 n0, .int .u8 n1, .int .u8 n2] 5)) := by
  subst h0 h1 h2
  obtain ⟨i0, hi, hz0, hz1, hz2⟩ := info_parts Tryz.infoU8
  refine wpList_append_own _ hgd s x 28 ho w0.heap.size 5 i0 (.int .u8 0) 1 1 Tryz.underlying28 hi hz0 hz1 hz2 rfl (by decide) v l.length (l.map c8) hs (hbuf.own.alloc _) ⟨W.heap.size, 0, none⟩ 3 3 [c8 y0, c8 y1, c8 y2] hx rfl (three_cells W y0 y1 y2) (fun u hu => by simp at hu; rcases hu with rfl | rfl | rfl <;> rfl) (by unfold maxLen; omega) (by omega) (by have := hbuf.below.size; simp; omega) ?_
  intro v' W' hown hgrow _
  refine h v' W' ⟨?_, ?_⟩
  · refine (hbuf.alloc _).below.grown hgrow (by have := hbuf.below.size; simp; omega) ?_
    intro k hk
    exact (hbuf.own.lt k hk).1
  · rw [List.length_append, List.map_append]
    exact hown
theorem ne37' {n : UInt8} (h : n ≠ 37) : ((n.toNat : Int) != 37) = true := by
  rw [bne_iff_ne]
  intro hh
  exact h (UInt8.toNat_inj.1 (by have : n.toNat = 37 := by omega
                                 rw [this]; rfl))
theorem evL_end {s : ByteArray} {k : Nat} (h : s.size ≤ k) : evL (s.data.toList.drop k) = [] := by
  rw [List.drop_of_length_le (by rw [len_data]; exact h)]; rfl
set_option maxRecDepth 100000 in
set_option maxHeartbeats 4000000 in
theorem l7percent_any (s : ByteArray) (w : World) (hs : s.size ≤ 1048576) :
    Calls Tryz.prog 51 #[.string s] w fun e w' => e = .returned (.string (evB s)) ∧ Below w.heap.size w w' := by
  have hel := evL_len s.data.toList.length s.data.toList (Nat.le_refl _)
  rw [len_data] at hel
  unfold evB
  generalize hR : evL s.data.toList = R at *
  have HR := hideB2 hR
  clear hR
  go_enter Tryz.func51, Tryz.ntmps51
  go_wp2
  go_loopw [3, 4] (fun ov i wr => ∃ (k : Nat) (o : List UInt8), k ≤ s.size ∧ i = .int .i64 k ∧ o ++ evL (s.data.toList.drop k) = R ∧ Buf w wr ov o) (fun _ i _ => s.size - (intOf i).toNat)
  case atStart => exact ⟨0, [], Nat.zero_le _, rfl, by rw [List.drop_zero, List.nil_append]; exact HR.out, Buf.start w⟩
  case round =>
    obtain ⟨k, o, hk, rfl, ho, hbuf⟩ := hrel
    have hol : o.length ≤ 1048576 := by
      have := congrArg List.length ho
      rw [List.length_append] at this
      omega
    have HO := hideB2 ho
    clear ho
    by_cases hlt : k < s.size
    · have hat : s[k] = at8 s k := at8_eq s k hlt
      by_cases h37 : at8 s k = 37 ∧ k + 3 ≤ s.size
      · obtain ⟨h37, h3⟩ := h37
        have hb : ((s[k].toNat : Int) != 37) = false := by rw [hat, h37]; rfl
        have e2 : IntKind.i64.wrap ((k : Int) + 2) = (k : Int) + 2 := by rw [IntKind.wrap_i64]; omega
        have e1 : IntKind.i64.wrap ((k : Int) + 1) = (k : Int) + 1 := by rw [IntKind.wrap_i64]; omega
        have e3 : IntKind.i64.wrap ((k : Int) + 3) = (k : Int) + 3 := by rw [IntKind.wrap_i64]; omega
        have c0 : ¬ ((s.size : Int) ≤ (k : Int) + 2) := by omega
        have c1 : (0 : Int) ≤ (k : Int) + 1 := by omega
        have c2 : (k : Int) + 1 ≤ (k : Int) + 3 := by omega
        have c3 : (k : Int) + 3 ≤ (s.size : Int) := by omega
        obtain ⟨r1, r2⟩ := rhex_two (s := s) (by omega) k h3
        have HRH := hideB2 (fun W => sReadHex_any (s.extract (k + 1) (k + 3)) W (by rw [ByteArray.size_extract]; unfold maxLen; omega))
        have hq : hexAt s k = (hexP (at8 s (k + 1)) && hexP (at8 s (k + 2))) := by unfold hexAt; rw [decide_eq_true h3, beq_iff_eq.2 h37]; rfl
        rw [r1, ← hq] at HRH
        rw [r1, ← hq] at r2
        clear r1 hq
        generalize hxx : s.extract (k + 1) (k + 3) = x at *
        cases hqv : hexAt s k
        · rw [hqv] at HRH
          have HN := hideB2 (show (o ++ [at8 s k]) ++ evL (s.data.toList.drop (k + 1)) = R by rw [List.append_assoc, List.singleton_append, ← evL_on hlt hqv]; exact HO.out)
          have HY := hideB2 (show (s[k].toNat : Int) = ((at8 s k).toNat : Int) by rw [hat])
          clear hqv hat h37 r2 HO
          go_wp2_with (first | (go_at_call 81; (try rw [hxx]); refine (HRH.out _).mono ?_; rintro e w' ⟨rfl, rfl⟩) | (at_builtin; refine wp_app rfl (.tmp 56) (.tmp 60) rfl _ _ rfl hbuf _ (at8 s k) HY.out rfl (by omega) ?_; intro v2 W2 hbuf2))
          go_roundw
          case rel => exact ⟨k + 1, _, by omega, by go_num, HN.out, hbuf2⟩
          case measure => simp [intOf]; omega
        · rw [hqv] at HRH
          have r3 := r2 hqv
          have hst := evL_at hqv
          rw [r3] at HRH
          have h8 : (0 : Int) ≤ ((nam8 (at8 s (k + 1)) (at8 s (k + 2))).toNat : Int) ∧ ((nam8 (at8 s (k + 1)) (at8 s (k + 2))).toNat : Int) ≤ 255 := ⟨u8_lo _, u8_hi _⟩
          have HF := hideB2 (fun W => l7free_any ((nam8 (at8 s (k + 1)) (at8 s (k + 2))).toNat : Int) W h8.1 h8.2)
          have g1 : s[k + 1] = at8 s (k + 1) := at8_eq s (k + 1) (by omega)
          have g2 : s[k + 2] = at8 s (k + 2) := at8_eq s (k + 2) (by omega)
          unfold pctP at hst
          change Hid (∀ W, Calls _ _ _ W fun e w' => e = .returned (.bool (opn8 (nam8 (at8 s (k + 1)) (at8 s (k + 2))))) ∧ w' = W) at HF
          cases hfr : opn8 (nam8 (at8 s (k + 1)) (at8 s (k + 2)))
          · rw [hfr] at HF hst
            rw [if_neg (by simp)] at hst
            have HN := hideB2 (show (o ++ [37, up8 (at8 s (k + 1)), up8 (at8 s (k + 2))]) ++ evL (s.data.toList.drop (k + 3)) = R by rw [List.append_assoc, ← hst]; exact HO.out)
            have HY1 := hideB2 (up8_toNat (at8 s (k + 1)))
            have HY2 := hideB2 (up8_toNat (at8 s (k + 2)))
            have HG1 := hideB2 (show (s[k + 1].toNat : Int) = ((at8 s (k + 1)).toNat : Int) by rw [g1])
            have hi2 : ((k : Int) + 2).toNat < s.size := by omega
            have HG2 := hideB2 (show ((s[((k : Int) + 2).toNat]'hi2).toNat : Int) = ((at8 s (k + 2)).toNat : Int) by rw [at8_eq s _ hi2, show ((k : Int) + 2).toNat = k + 2 by omega])
            have HUP := hideB2 (fun n W h0 h1 => l7upper_any n W h0 h1)
            have hw8 : IntKind.u8.wrap ((nam8 (at8 s (k + 1)) (at8 s (k + 2))).toNat : Int) = ((nam8 (at8 s (k + 1)) (at8 s (k + 2))).toNat : Int) := by rw [IntKind.wrap_u8]; omega
            clear hqv hat h37 r2 r3 HO hst hfr g1 g2
            generalize ((nam8 (at8 s (k + 1)) (at8 s (k + 2))).toNat : Int) = nv at *
            generalize up8 (at8 s (k + 1)) = y1 at *
            generalize up8 (at8 s (k + 2)) = y2 at *
            rw [← HG1.out] at HY1
            rw [← HG2.out] at HY2
            clear HG1 HG2
            go_wp2_with (first | (go_at_call 81; (try rw [hxx]); refine (HRH.out _).mono ?_; rintro e w' ⟨rfl, rfl⟩) | (go_at_call 82; refine (HF.out _).mono ?_; rintro e w' ⟨rfl, rfl⟩))
            obtain ⟨pa, pc, rfl⟩ := hbuf.form
            have d0 : (0 : Int) ≤ (k : Int) + 2 := by omega
            have d1 : (k : Int) + 1 < (s.size : Int) := by omega
            have d2 : (k : Int) + 2 < (s.size : Int) := by omega
            have d3 : k + 1 < s.size := by omega
            have d4 : k + 2 < s.size := by omega
            have HBF := hideB2 hbuf
            clear hbuf
            refine wp_region_lead_draws 10 (.slice pa o.length pc) ?_ ?_ (fun _ _ _ h => h) (Or.inl ⟨rfl, fun _ => rfl⟩) ?_
            · kernel_rfl
            · kernel_rfl
            simp only [List.take_succ_cons, List.take_zero, List.drop_succ_cons, List.drop_zero]
            go_simp
            repeat (go_big_quiet_step ((go_at_call 83; exact Calls.quiet_of_same (HUP.out _ _ (u8_lo _) (u8_hi _)))))
            refine wpQuiet_nil ?_
            intro nq
            go_wp2_with (at_builtin; refine wp_app3 rfl (.tmp 40) (.tmp 51) rfl w _ _ rfl (HBF.out.drewNU nq) _ _ _ 37 y1 y2 rfl HY1.out.symm HY2.out.symm rfl (by omega) ?_; intro v5 W5 hbuf5)
            go_roundw
            case rel => exact ⟨k + 3, _, by omega, by go_num, HN.out, hbuf5⟩
            case measure => simp [intOf]; omega
          · rw [hfr] at HF hst
            rw [if_pos rfl] at hst
            have HN := hideB2 (show (o ++ [nam8 (at8 s (k + 1)) (at8 s (k + 2))]) ++ evL (s.data.toList.drop (k + 3)) = R by rw [List.append_assoc, ← hst]; exact HO.out)
            have hw8 : IntKind.u8.wrap ((nam8 (at8 s (k + 1)) (at8 s (k + 2))).toNat : Int) = ((nam8 (at8 s (k + 1)) (at8 s (k + 2))).toNat : Int) := by rw [IntKind.wrap_u8]; omega
            have HY := hideB2 (show ((nam8 (at8 s (k + 1)) (at8 s (k + 2))).toNat : Int) = ((nam8 (at8 s (k + 1)) (at8 s (k + 2))).toNat : Int) from rfl)
            clear hqv hat h37 r2 r3 HO hst hfr g1 g2
            generalize nam8 (at8 s (k + 1)) (at8 s (k + 2)) = y at *
            go_wp2_with (first | (go_at_call 81; (try rw [hxx]); refine (HRH.out _).mono ?_; rintro e w' ⟨rfl, rfl⟩) | (go_at_call 82; refine (HF.out _).mono ?_; rintro e w' ⟨rfl, rfl⟩) | (at_builtin; refine wp_app rfl (.tmp 66) (.tmp 69) rfl _ _ rfl hbuf _ y (by first | rfl | exact hw8) rfl (by omega) ?_; intro v2 W2 hbuf2))
            go_roundw
            case rel => exact ⟨k + 3, _, by omega, by go_num, HN.out, hbuf2⟩
            case measure => simp [intOf]; omega
      · have hno : hexAt s k = false := by
          cases hh : hexAt s k with
          | false => rfl
          | true => obtain ⟨x1, x2, _⟩ := hexAt_iff.1 hh; exact absurd ⟨x2, x1⟩ h37
        have HN := hideB2 (show (o ++ [at8 s k]) ++ evL (s.data.toList.drop (k + 1)) = R by rw [List.append_assoc, List.singleton_append, ← evL_on hlt hno]; exact HO.out)
        have HY := hideB2 (show (s[k].toNat : Int) = ((at8 s k).toNat : Int) by rw [hat])
        by_cases h37' : at8 s k = 37
        · have hb : ((s[k].toNat : Int) != 37) = false := by rw [hat, h37']; rfl
          have e2 : IntKind.i64.wrap ((k : Int) + 2) = (k : Int) + 2 := by rw [IntKind.wrap_i64]; omega
          have c0 : (s.size : Int) ≤ (k : Int) + 2 := by
            have : ¬ (k + 3 ≤ s.size) := fun hh => h37 ⟨h37', hh⟩
            omega
          clear hno hat h37 h37' HO
          go_wp2_with (at_builtin; refine wp_app rfl (.tmp 24) (.tmp 28) rfl _ _ rfl hbuf _ (at8 s k) HY.out rfl (by omega) ?_; intro v2 W2 hbuf2)
          go_roundw
          case rel => exact ⟨k + 1, _, by omega, by go_num, HN.out, hbuf2⟩
          case measure => simp [intOf]; omega
        · have hb : ((s[k].toNat : Int) != 37) = true := by rw [hat]; exact ne37' h37'
          clear hno hat h37 h37' HO
          go_wp2_with (at_builtin; refine wp_app rfl (.tmp 24) (.tmp 28) rfl _ _ rfl hbuf _ (at8 s k) HY.out rfl (by omega) ?_; intro v2 W2 hbuf2)
          go_roundw
          case rel => exact ⟨k + 1, _, by omega, by go_num, HN.out, hbuf2⟩
          case measure => simp [intOf]; omega
    · have HE := hideB2 (show R = o by rw [← HO.out, evL_end (by omega), List.append_nil])
      have kb := hbuf.text
      have HB := hideB2 hbuf.below
      clear hbuf
      go_wp2
      go_ret
      exact ⟨ret_str (by rw [HE.out]), HB.out⟩
end Go.Proofs.YtefhpjipcdmbaabGreatDoor
