/-
  Chapter 7: what a % stands for, and a text cut; the specification's side. · Chapter 7: a text with its % looked at; the program's side. · Chapter 7: the pieces that stay, and a path in its one form; the program's side. · Chapter 7: a path in its one form; the program's side. · Chapter 7: a text cut, and a path in its one form; the specification's side. · Contracts of the library's functions at this program, laid off the kit's shelf in plain words. · A text cut at its first byte c; up to a byte; both sides. · Contracts of the library's functions at this program, laid off the kit's shelf in plain words. · Chapter 7: hosts; the walks of both sides; a text up to a byte.
-/
import Derived.Test.YtmhohponikolfaaGreatDoorJ2
import Derived.Lib.IndexAny
import Derived.Shelf.Strings.Search2
import Derived.Test.YtmhohponikolfaaGreatDoorProg
import Derived.Test.YtmhohponikolfaaGreatDoorJ0
import Derived.Test.YtmhohponikolfaaGreatDoorJ1
import Derived.Deep.DeepCutAuto
import Derived.Shelf.Slices.Turned
import Derived.Shelf.Slices.Cells
import Derived.Shelf.Strings.Search3
import Derived.Laws.RangeAny
import Derived.Deep.LoopGhost
namespace Go.Proofs.YtmhohponikolfaaGreatDoor
set_option linter.unusedVariables false
set_option linter.unusedSimpArgs false
open Go.RowKit
theorem Buf.drewU {w0 w : World} {v : Value} {l : List UInt8} (h : Buf w0 w v l) : Buf w0 w.drew v l := ⟨h.below.drew, h.own⟩
theorem Buf.drewNU {w0 w : World} {v : Value} {l : List UInt8} (h : Buf w0 w v l) (n : Nat) : Buf w0 (w.drewN n) v l :=
  ⟨below_drewN h.below n, h.own.kept (⟨rfl, rfl, rfl, Nat.le_refl _, fun _ _ _ => rfl⟩ : w.grownBy (w.drewN n) none) (by simp; exact Classical.em _)⟩
theorem three_cells (W : World) (y0 y1 y2 : UInt8) : ∀ (j : Nat) (v : Value), [c8 y0, c8 y1, c8 y2][j]? = some v → (W.alloc (.cells #[c8 y0, c8 y1, c8 y2] 5)).cell? ((⟨W.heap.size, 0, none⟩ : Addr).add j) = some v := by
  intro j v hv
  rw [Addr.add_lit, Nat.zero_add, (Blk.new W #[c8 y0, c8 y1, c8 y2] 5).cell j]
  simpa using hv
/-- append(buf, three bytes). -/
theorem wp_app3 {ops : Array Oper} {rest : List Oper} {o : Oper} {a : Act} {Q : Exit → Act → World → Prop} {W : World} (hgd : o.guard = none) (s x : Operand)
    (ho : o.op = .call { callee := .builtin .append, args := #[s, x], argTypes := #[22, 22] }) (w0 : World) (v : Value) (l : List UInt8) (hs : a.eval s = v) (hbuf : Buf w0 W v l)
    (n0 n1 n2 : Int) (y0 y1 y2 : UInt8) (h0 : n0 = (y0.toNat : Int)) (h1 : n1 = (y1.toNat : Int)) (h2 : n2 = (y2.toNat : Int)) (hx : a.eval x = .slice (some ⟨W.heap.size, 0, none⟩) 3 3) (hlen : l.length ≤ 1099511627776)
    (h : ∀ v' W', Buf w0 W' v' (l ++ [y0, y1, y2]) → wpList Tryz.prog ops Q rest (a.put o.dst v') W') :
    wpList Tryz.prog ops Q (o :: rest) a (W.alloc (.cells #[.int .u8 n0, .int .u8 n1, .int .u8 n2] 5)) := by
  subst h0 h1 h2
  obtain ⟨i0, hi, hz0, hz1, hz2⟩ := info_parts Tryz.infoU8
  refine wpList_append_own _ hgd s x 22 ho w0.heap.size 5 i0 (.int .u8 0) 1 1 Tryz.underlying22 hi hz0 hz1 hz2 rfl (by decide) v l.length (l.map c8) hs (hbuf.own.alloc _) ⟨W.heap.size, 0, none⟩ 3 3 [c8 y0, c8 y1, c8 y2] hx rfl (three_cells W y0 y1 y2) (fun u hu => by simp at hu; rcases hu with rfl | rfl | rfl <;> rfl) (by unfold maxLen; omega) (by omega) (by have := hbuf.below.size; simp; omega) ?_
  intro v' W' hown hgrow _
  refine h v' W' ⟨?_, ?_⟩
  · refine (hbuf.alloc _).below.grown hgrow (by have := hbuf.below.size; simp; omega) ?_
    intro k hk
    exact (hbuf.own.lt k hk).1
  · rw [List.length_append, List.map_append]
    exact hown
theorem ne37' {n : UInt8} (h : n ≠ 37) : ((n.toNat : Int) != 37) = true := by
  rw [bne_iff_ne]
  intro hh
  exact h (UInt8.toNat_inj.1 (by have : n.toNat = 37 := by omega
                                 rw [this]; rfl))
theorem evL_end {s : ByteArray} {k : Nat} (h : s.size ≤ k) : evL (s.data.toList.drop k) = [] := by
  rw [List.drop_of_length_le (by rw [len_data]; exact h)]; rfl
set_option maxRecDepth 100000 in
set_option maxHeartbeats 4000000 in
theorem l7percent_any (s : ByteArray) (w : World) (hs : s.size ≤ 1048576) :
    Calls Tryz.prog 59 #[.string s] w fun e w' => e = .returned (.string (evB s)) ∧ Below w.heap.size w w' := by
  have hel := evL_len s.data.toList.length s.data.toList (Nat.le_refl _)
  rw [len_data] at hel
  unfold evB
  generalize hR : evL s.data.toList = R at *
  have HR := hideB2 hR
  clear hR
  go_enter Tryz.func59, Tryz.ntmps59
  go_wp2
  go_loopw [3, 4] (fun ov i wr => ∃ (k : Nat) (o : List UInt8), k ≤ s.size ∧ i = .int .i64 k ∧ o ++ evL (s.data.toList.drop k) = R ∧ Buf w wr ov o) (fun _ i _ => s.size - (intOf i).toNat)
  case atStart => exact ⟨0, [], Nat.zero_le _, rfl, by rw [List.drop_zero, List.nil_append]; exact HR.out, Buf.start w⟩
  case round =>
    obtain ⟨k, o, hk, rfl, ho, hbuf⟩ := hrel
    have hol : o.length ≤ 1048576 := by
      have := congrArg List.length ho
      rw [List.length_append] at this
      omega
    have HO := hideB2 ho
    clear ho
    by_cases hlt : k < s.size
    · have hat : s[k] = at8 s k := at8_eq s k hlt
      by_cases h37 : at8 s k = 37 ∧ k + 3 ≤ s.size
      · obtain ⟨h37, h3⟩ := h37
        have hb : ((s[k].toNat : Int) != 37) = false := by rw [hat, h37]; rfl
        have e2 : IntKind.i64.wrap ((k : Int) + 2) = (k : Int) + 2 := by rw [IntKind.wrap_i64]; omega
        have e1 : IntKind.i64.wrap ((k : Int) + 1) = (k : Int) + 1 := by rw [IntKind.wrap_i64]; omega
        have e3 : IntKind.i64.wrap ((k : Int) + 3) = (k : Int) + 3 := by rw [IntKind.wrap_i64]; omega
        have c0 : ¬ ((s.size : Int) ≤ (k : Int) + 2) := by omega
        have c1 : (0 : Int) ≤ (k : Int) + 1 := by omega
        have c2 : (k : Int) + 1 ≤ (k : Int) + 3 := by omega
        have c3 : (k : Int) + 3 ≤ (s.size : Int) := by omega
        obtain ⟨r1, r2⟩ := rhex_two (s := s) (by omega) k h3
        have HRH := hideB2 (fun W => sReadHex_any (s.extract (k + 1) (k + 3)) W (by rw [ByteArray.size_extract]; unfold maxLen; omega))
        have hq : hexAt s k = (hexP (at8 s (k + 1)) && hexP (at8 s (k + 2))) := by unfold hexAt; rw [decide_eq_true h3, beq_iff_eq.2 h37]; rfl
        rw [r1, ← hq] at HRH
        rw [r1, ← hq] at r2
        clear r1 hq
        generalize hxx : s.extract (k + 1) (k + 3) = x at *
        cases hqv : hexAt s k
        · rw [hqv] at HRH
          have HN := hideB2 (show (o ++ [at8 s k]) ++ evL (s.data.toList.drop (k + 1)) = R by rw [List.append_assoc, List.singleton_append, ← evL_on hlt hqv]; exact HO.out)
          have HY := hideB2 (show (s[k].toNat : Int) = ((at8 s k).toNat : Int) by rw [hat])
          clear hqv hat h37 r2 HO
          go_wp2_with (first | (go_at_call 100; (try rw [hxx]); refine (HRH.out _).mono ?_; rintro e w' ⟨rfl, rfl⟩) | (at_builtin; refine wp_app rfl (.tmp 56) (.tmp 60) rfl _ _ rfl hbuf _ (at8 s k) HY.out rfl (by omega) ?_; intro v2 W2 hbuf2))
          go_roundw
          case rel => exact ⟨k + 1, _, by omega, by go_num, HN.out, hbuf2⟩
          case measure => simp [intOf]; omega
        · rw [hqv] at HRH
          have r3 := r2 hqv
          have hst := evL_at hqv
          rw [r3] at HRH
          have h8 : (0 : Int) ≤ ((nam8 (at8 s (k + 1)) (at8 s (k + 2))).toNat : Int) ∧ ((nam8 (at8 s (k + 1)) (at8 s (k + 2))).toNat : Int) ≤ 255 := ⟨u8_lo _, u8_hi _⟩
          have HF := hideB2 (fun W => l7free_any ((nam8 (at8 s (k + 1)) (at8 s (k + 2))).toNat : Int) W h8.1 h8.2)
          have g1 : s[k + 1] = at8 s (k + 1) := at8_eq s (k + 1) (by omega)
          have g2 : s[k + 2] = at8 s (k + 2) := at8_eq s (k + 2) (by omega)
          unfold pctP at hst
          change Hid (∀ W, Calls _ _ _ W fun e w' => e = .returned (.bool (opn8 (nam8 (at8 s (k + 1)) (at8 s (k + 2))))) ∧ w' = W) at HF
          cases hfr : opn8 (nam8 (at8 s (k + 1)) (at8 s (k + 2)))
          · rw [hfr] at HF hst
            rw [if_neg (by simp)] at hst
            have HN := hideB2 (show (o ++ [37, up8 (at8 s (k + 1)), up8 (at8 s (k + 2))]) ++ evL (s.data.toList.drop (k + 3)) = R by rw [List.append_assoc, ← hst]; exact HO.out)
            have HY1 := hideB2 (up8_toNat (at8 s (k + 1)))
            have HY2 := hideB2 (up8_toNat (at8 s (k + 2)))
            have HG1 := hideB2 (show (s[k + 1].toNat : Int) = ((at8 s (k + 1)).toNat : Int) by rw [g1])
            have hi2 : ((k : Int) + 2).toNat < s.size := by omega
            have HG2 := hideB2 (show ((s[((k : Int) + 2).toNat]'hi2).toNat : Int) = ((at8 s (k + 2)).toNat : Int) by rw [at8_eq s _ hi2, show ((k : Int) + 2).toNat = k + 2 by omega])
            have HUP := hideB2 (fun n W h0 h1 => l7upper_any n W h0 h1)
            have hw8 : IntKind.u8.wrap ((nam8 (at8 s (k + 1)) (at8 s (k + 2))).toNat : Int) = ((nam8 (at8 s (k + 1)) (at8 s (k + 2))).toNat : Int) := by rw [IntKind.wrap_u8]; omega
            clear hqv hat h37 r2 r3 HO hst hfr g1 g2
            generalize ((nam8 (at8 s (k + 1)) (at8 s (k + 2))).toNat : Int) = nv at *
            generalize up8 (at8 s (k + 1)) = y1 at *
            generalize up8 (at8 s (k + 2)) = y2 at *
            rw [← HG1.out] at HY1
            rw [← HG2.out] at HY2
            clear HG1 HG2
            go_wp2_with (first | (go_at_call 100; (try rw [hxx]); refine (HRH.out _).mono ?_; rintro e w' ⟨rfl, rfl⟩) | (go_at_call 101; refine (HF.out _).mono ?_; rintro e w' ⟨rfl, rfl⟩))
            obtain ⟨pa, pc, rfl⟩ := hbuf.form
            have d0 : (0 : Int) ≤ (k : Int) + 2 := by omega
            have d1 : (k : Int) + 1 < (s.size : Int) := by omega
            have d2 : (k : Int) + 2 < (s.size : Int) := by omega
            have d3 : k + 1 < s.size := by omega
            have d4 : k + 2 < s.size := by omega
            have HBF := hideB2 hbuf
            clear hbuf
            refine wp_region_lead_draws 10 (.slice pa o.length pc) ?_ ?_ (fun _ _ _ h => h) (Or.inl ⟨rfl, fun _ => rfl⟩) ?_
            · kernel_rfl
            · kernel_rfl
            simp only [List.take_succ_cons, List.take_zero, List.drop_succ_cons, List.drop_zero]
            go_simp
            repeat (go_big_quiet_step ((go_at_call 102; exact Calls.quiet_of_same (HUP.out _ _ (u8_lo _) (u8_hi _)))))
            refine wpQuiet_nil ?_
            intro nq
            go_wp2_with (at_builtin; refine wp_app3 rfl (.tmp 40) (.tmp 51) rfl w _ _ rfl (HBF.out.drewNU nq) _ _ _ 37 y1 y2 rfl HY1.out.symm HY2.out.symm rfl (by omega) ?_; intro v5 W5 hbuf5)
            go_roundw
            case rel => exact ⟨k + 3, _, by omega, by go_num, HN.out, hbuf5⟩
            case measure => simp [intOf]; omega
          · rw [hfr] at HF hst
            rw [if_pos rfl] at hst
            have HN := hideB2 (show (o ++ [nam8 (at8 s (k + 1)) (at8 s (k + 2))]) ++ evL (s.data.toList.drop (k + 3)) = R by rw [List.append_assoc, ← hst]; exact HO.out)
            have hw8 : IntKind.u8.wrap ((nam8 (at8 s (k + 1)) (at8 s (k + 2))).toNat : Int) = ((nam8 (at8 s (k + 1)) (at8 s (k + 2))).toNat : Int) := by rw [IntKind.wrap_u8]; omega
            have HY := hideB2 (show ((nam8 (at8 s (k + 1)) (at8 s (k + 2))).toNat : Int) = ((nam8 (at8 s (k + 1)) (at8 s (k + 2))).toNat : Int) from rfl)
            clear hqv hat h37 r2 r3 HO hst hfr g1 g2
            generalize nam8 (at8 s (k + 1)) (at8 s (k + 2)) = y at *
            go_wp2_with (first | (go_at_call 100; (try rw [hxx]); refine (HRH.out _).mono ?_; rintro e w' ⟨rfl, rfl⟩) | (go_at_call 101; refine (HF.out _).mono ?_; rintro e w' ⟨rfl, rfl⟩) | (at_builtin; refine wp_app rfl (.tmp 66) (.tmp 69) rfl _ _ rfl hbuf _ y (by first | rfl | exact hw8) rfl (by omega) ?_; intro v2 W2 hbuf2))
            go_roundw
            case rel => exact ⟨k + 3, _, by omega, by go_num, HN.out, hbuf2⟩
            case measure => simp [intOf]; omega
      · have hno : hexAt s k = false := by
          cases hh : hexAt s k with
          | false => rfl
          | true => obtain ⟨x1, x2, _⟩ := hexAt_iff.1 hh; exact absurd ⟨x2, x1⟩ h37
        have HN := hideB2 (show (o ++ [at8 s k]) ++ evL (s.data.toList.drop (k + 1)) = R by rw [List.append_assoc, List.singleton_append, ← evL_on hlt hno]; exact HO.out)
        have HY := hideB2 (show (s[k].toNat : Int) = ((at8 s k).toNat : Int) by rw [hat])
        by_cases h37' : at8 s k = 37
        · have hb : ((s[k].toNat : Int) != 37) = false := by rw [hat, h37']; rfl
          have e2 : IntKind.i64.wrap ((k : Int) + 2) = (k : Int) + 2 := by rw [IntKind.wrap_i64]; omega
          have c0 : (s.size : Int) ≤ (k : Int) + 2 := by
            have : ¬ (k + 3 ≤ s.size) := fun hh => h37 ⟨h37', hh⟩
            omega
          clear hno hat h37 h37' HO
          go_wp2_with (at_builtin; refine wp_app rfl (.tmp 24) (.tmp 28) rfl _ _ rfl hbuf _ (at8 s k) HY.out rfl (by omega) ?_; intro v2 W2 hbuf2)
          go_roundw
          case rel => exact ⟨k + 1, _, by omega, by go_num, HN.out, hbuf2⟩
          case measure => simp [intOf]; omega
        · have hb : ((s[k].toNat : Int) != 37) = true := by rw [hat]; exact ne37' h37'
          clear hno hat h37 h37' HO
          go_wp2_with (at_builtin; refine wp_app rfl (.tmp 24) (.tmp 28) rfl _ _ rfl hbuf _ (at8 s k) HY.out rfl (by omega) ?_; intro v2 W2 hbuf2)
          go_roundw
          case rel => exact ⟨k + 1, _, by omega, by go_num, HN.out, hbuf2⟩
          case measure => simp [intOf]; omega
    · have HE := hideB2 (show R = o by rw [← HO.out, evL_end (by omega), List.append_nil])
      have kb := hbuf.text
      have HB := hideB2 hbuf.below
      clear hbuf
      go_wp2
      go_ret
      exact ⟨ret_str (by rw [HE.out]), HB.out⟩
end Go.Proofs.YtmhohponikolfaaGreatDoor
namespace Go.Proofs.YtmhohponikolfaaGreatDoor
set_option linter.unusedVariables false
set_option linter.unusedSimpArgs false
open Go.RowKit
def strLen : Value → Nat
  | .string b => b.size
  | _ => 0
/-- The byte that the first bytes of s name, or 0. -/
def namV (s : ByteArray) : Int := if hexAt s 0 = true then ((nam8 (at8 s 1) (at8 s 2)).toNat : Int) else 0
theorem namV_bd (s : ByteArray) : 0 ≤ namV s ∧ namV s ≤ 255 := by
  unfold namV
  split
  · exact ⟨u8_lo _, u8_hi _⟩
  · omega
theorem hexAt_short {s : ByteArray} (h : s.size < 3) : hexAt s 0 = false := by
  unfold hexAt; rw [decide_eq_false (by omega)]; rfl
theorem hexAt_other {s : ByteArray} (h : at8 s 0 ≠ 37) : hexAt s 0 = false := by
  unfold hexAt; rw [beq_eq_false_iff_ne.2 h]; simp
theorem hexAt_rhex {s : ByteArray} (h3 : 3 ≤ s.size) (h : at8 s 0 = 37) : rhexOk (s.extract 1 3) = hexAt s 0 ∧ rhexN (s.extract 1 3) = namV s := by
  obtain ⟨e1, e2⟩ := rhex_two h3 0 (by omega)
  have e0 : hexAt s 0 = (hexP (at8 s (0 + 1)) && hexP (at8 s (0 + 2))) := by
    unfold hexAt; rw [decide_eq_true (by omega), beq_iff_eq.2 h]; rfl
  have e3 : rhexOk (s.extract 1 3) = hexAt s 0 := by rw [e0]; exact e1
  refine ⟨e3, ?_⟩
  unfold namV
  cases hh : hexAt s 0
  · rw [if_neg (by simp)]
    have : rhexOk (s.extract 1 3) = false := by rw [e3, hh]
    unfold rhexN; rw [this]; rfl
  · rw [if_pos rfl]
    exact e2 (by rw [show s.extract (0 + 1) (0 + 3) = s.extract 1 3 from rfl, e3, hh])
theorem ne37 {n : UInt8} (h : n ≠ 37) : ((n.toNat : Int) != 37) = true := by
  rw [bne_iff_ne]
  intro hh
  exact h (UInt8.toNat_inj.1 (by have : n.toNat = 37 := by omega
                                 rw [this]; rfl))
set_option maxHeartbeats 1000000 in
theorem namedByte_any (s : ByteArray) (w : World) (hs : s.size ≤ maxLen) :
    Calls Tryz.prog 135 #[.string s] w fun e w' => e = .returned (.tuple #[.int .u8 (namV s), .bool (hexAt s 0)]) ∧ w' = w := by
  unfold maxLen at hs
  by_cases h3 : s.size < 3
  · have e0 := hexAt_short h3
    have e1 : namV s = 0 := by unfold namV; rw [e0]; rfl
    rw [e0, e1]
    have h3' : (s.size : Int) < 3 := by omega
    clear e0 e1
    go_enter Tryz.func135, Tryz.ntmps135
    go_wp2
    go_ret2
    exact ⟨rfl, rfl⟩
  · have h3' : ¬ (s.size : Int) < 3 := by omega
    have h0 : 0 < s.size := by omega
    have hat : s[0]'h0 = at8 s 0 := at8_eq s 0 h0
    by_cases h37 : at8 s 0 = 37
    · obtain ⟨e0, e1⟩ := hexAt_rhex (by omega) h37
      have hb : ((s[0].toNat : Int) != 37) = false := by rw [hat, h37]; rfl
      have HB := namV_bd s
      have HR := hideB2 (fun W => ReadHex_any (s.extract 1 3) W (by rw [ByteArray.size_extract]; unfold maxLen; omega))
      rw [e0, e1] at HR
      clear e0 e1 hat h37
      generalize namV s = v at *
      generalize hexAt s 0 = q at *
      have e1 : IntKind.u8.wrap v = v := by rw [IntKind.wrap_u8]; omega
      have c1 : (3 : Int) ≤ (s.size : Int) := by omega
      generalize hx : s.extract 1 3 = x at *
      go_enter Tryz.func135, Tryz.ntmps135
      go_wp2_with (go_at_call 160; first | rw [hx] | skip; refine (HR.out _).mono ?_; rintro e w' ⟨rfl, rfl⟩)
      go_ret2
      first | exact ⟨rfl, rfl⟩ | (rw [e1]; exact ⟨rfl, rfl⟩)
    · have e0 := hexAt_other h37
      have e1 : namV s = 0 := by unfold namV; rw [e0]; rfl
      have hb : ((s[0].toNat : Int) != 37) = true := by rw [hat]; exact ne37 h37
      rw [e0, e1]
      clear e0 e1 hat
      go_enter Tryz.func135, Tryz.ntmps135
      go_wp2
      go_ret2
      exact ⟨rfl, rfl⟩
theorem Tryz.extraU : Builder.Extra Tryz.prog Tryz.lays158_ren := { sizeBuilder := by kernel_rfl, liesBuilder := by kernel_rfl, t5 := Tryz.underlying5, a5 := Tryz.isAgg5, z5 := Tryz.sizeOf5, v5 := Tryz.zeroValue5, infoByte := by kernel_rfl, cellsByte := by kernel_rfl, sizeByte := by kernel_rfl, neB5 := by decide }
theorem upperB_up8 (b : UInt8) : Lib.upperB b = up8 b := by
  unfold Lib.upperB up8 Lib.isLowerB
  by_cases h : 97 ≤ b.toNat ∧ b.toNat ≤ 122
  · rw [if_pos h, if_pos]
    rw [Bool.and_eq_true, decide_eq_true_eq, decide_eq_true_eq]
    exact ⟨UInt8.le_iff_toNat_le.2 h.1, UInt8.le_iff_toNat_le.2 h.2⟩
  · rw [if_neg h, if_neg]
    rw [Bool.and_eq_true, decide_eq_true_eq, decide_eq_true_eq]
    rintro ⟨h1, h2⟩
    exact h ⟨UInt8.le_iff_toNat_le.1 h1, UInt8.le_iff_toNat_le.1 h2⟩
theorem hexP_ascii {b : UInt8} (h : hexP b = true) : b.toNat < 128 := by
  unfold hexP hex8 hexV at h
  have h0 : 0 ≤ (if digP (b.toNat : Int) = true then (b.toNat : Int) - 48 else if 97 ≤ lowI (b.toNat : Int) ∧ lowI (b.toNat : Int) ≤ 102 then lowI (b.toNat : Int) - 87 else -1) := of_decide_eq_true h
  split at h0
  · rename_i hd; rw [digP_iff] at hd; omega
  · split at h0
    · rename_i hl
      unfold lowI at hl
      split at hl
      · omega
      · omega
    · omega
theorem up3 {s : ByteArray} (h : hexAt s 0 = true) : (s.extract 0 3).data.toList = [37, at8 s 1, at8 s 2] := by
  obtain ⟨h1, h2, h3, h4⟩ := hexAt_iff.1 h
  rw [Lib.extract_data, drop_at8 (i := 0) (by omega), drop_at8 (i := 0 + 1) (by omega), drop_at8 (i := 0 + 1 + 1) (by omega), h2]
  rfl
set_option maxHeartbeats 1000000 in
theorem upper3_any (s : ByteArray) (w : World) (h : hexAt s 0 = true) :
    Calls Tryz.prog 137 #[.string (s.extract 0 3)] w fun e w' => e = .returned (.string ⟨#[37, up8 (at8 s 1), up8 (at8 s 2)]⟩) ∧ Below w.heap.size w w' := by
  have e := up3 h
  obtain ⟨h1, h2, h3, h4⟩ := hexAt_iff.1 h
  refine (Any.strings_ToUpper_ascii Tryz.lays158 Tryz.extraU (s.extract 0 3) w (by rw [ByteArray.size_extract]; omega) ?_).mono ?_
  · intro j b hj
    rw [e] at hj
    have hm := List.mem_of_getElem? hj
    simp only [List.mem_cons, List.not_mem_nil, or_false] at hm
    rcases hm with rfl | rfl | rfl
    · decide
    · exact hexP_ascii h3
    · exact hexP_ascii h4
  · rintro e1 w' ⟨rfl, hb⟩
    refine ⟨?_, hb⟩
    rw [e]
    show Ending.returned (.string ⟨#[Lib.upperB 37, Lib.upperB (at8 s 1), Lib.upperB (at8 s 2)]⟩) = _
    rw [upperB_up8, upperB_up8, upperB_up8]
    rfl
theorem evP_miss {s : ByteArray} (h : hexAt s 0 = false) : evP s = s.extract 0 1 ∧ evN s = 1 := by
  unfold evP evN; rw [h]; exact ⟨rfl, rfl⟩
theorem evP_hit {s : ByteArray} (h : hexAt s 0 = true) : evP s = ⟨(pctP (at8 s 1) (at8 s 2)).toArray⟩ ∧ evN s = 3 := by
  unfold evP evN; rw [h]; exact ⟨rfl, rfl⟩
set_option maxHeartbeats 2000000 in
theorem evenPart_any (s : ByteArray) (w : World) (hs : s.size ≤ maxLen) (hpos : 0 < s.size) :
    Calls Tryz.prog 96 #[.string s] w fun e w' => e = .returned (.tuple #[.string (evP s), .int .i64 (evN s)]) ∧ Below w.heap.size w w' := by
  have HN := hideB2 (fun W => namedByte_any s W hs)
  have HB := namV_bd s
  unfold maxLen at hs
  cases hq : hexAt s 0
  · obtain ⟨e1, e2⟩ := evP_miss hq
    rw [e1, e2]
    rw [hq] at HN
    have c1 : (1 : Int) ≤ (s.size : Int) := by omega
    clear e1 e2 hq
    generalize namV s = v at *
    go_enter Tryz.func96, Tryz.ntmps96
    go_wp2_with (go_at_call 135; refine (HN.out _).mono ?_; rintro e w' ⟨rfl, rfl⟩)
    go_ret2
    exact ⟨rfl, Below.refl _ _⟩
  · obtain ⟨e1, e2⟩ := evP_hit hq
    rw [e1, e2]
    have ev : namV s = ((nam8 (at8 s 1) (at8 s 2)).toNat : Int) := by unfold namV; rw [hq]; rfl
    have hp : opn8 (nam8 (at8 s 1) (at8 s 2)) = opnP (namV s) := by rw [ev]; rfl
    have h3 := (hexAt_iff.1 hq).1
    have HU := hideB2 (fun W => upper3_any s W hq)
    have HO := hideB2 (fun W => openByte_any (namV s) W HB.1 HB.2)
    have c1 : (3 : Int) ≤ (s.size : Int) := by omega
    rw [hq] at HN
    unfold pctP
    rw [hp]
    clear e1 e2 hq hp
    cases ho : opnP (namV s)
    · rw [ho] at HO
      rw [if_neg (by simp)]
      clear ho ev
      generalize namV s = v at *
      generalize hx : s.extract 0 3 = x at *
      generalize up8 (at8 s 1) = y1 at *
      generalize up8 (at8 s 2) = y2 at *
      go_enter Tryz.func96, Tryz.ntmps96
      go_wp2_with (first | (go_at_call 135; refine (HN.out _).mono ?_; rintro e w' ⟨rfl, rfl⟩) | (go_at_call 136; refine (HO.out _).mono ?_; rintro e w' ⟨rfl, rfl⟩) | (go_at_call 137; (try rw [hx]); refine (HU.out _).mono ?_; rintro e w' ⟨rfl, hb⟩))
      go_ret2
      exact ⟨rfl, hb⟩
    · rw [ho] at HO
      rw [if_pos rfl]
      clear ho
      generalize nam8 (at8 s 1) (at8 s 2) = y at *
      have kb := fun W => (Buf.one W (namV s) y ev).text
      have HBL := hideB2 (below_a1 w (.cells #[.int .u8 (namV s)] 5))
      clear HU
      generalize namV s = v at *
      have HE := hideB2 ev
      clear ev
      go_enter Tryz.func96, Tryz.ntmps96
      go_wp2_with (first | (go_at_call 135; refine (HN.out _).mono ?_; rintro e w' ⟨rfl, rfl⟩) | (go_at_call 136; refine (HO.out _).mono ?_; rintro e w' ⟨rfl, rfl⟩))
      go_ret2
      exact ⟨rfl, HBL.out⟩
theorem evP_le (s : ByteArray) : (evP s).size ≤ evN s := by
  unfold evP evN
  split
  · show (pctP _ _).toArray.size ≤ 3
    simpa using pctP_len _ _
  · rw [ByteArray.size_extract]; omega
theorem evB_nil {s : ByteArray} (h : s.size = 0) : evB s = ⟨#[]⟩ := by
  have e : s.data.toList = [] := List.eq_nil_of_length_eq_zero (by rw [len_data]; exact h)
  unfold evB
  rw [e]
  rfl
theorem bytes_assoc (a b c : ByteArray) : (a ++ b) ++ c = a ++ (b ++ c) := by
  apply bytes_ext
  simp [Go.Joins.data_append]
theorem bytes_nil_right (a : ByteArray) : a ++ (⟨#[]⟩ : ByteArray) = a := by
  apply bytes_ext
  simp [Go.Joins.data_append]
theorem bytes_nil_left (a : ByteArray) : (⟨#[]⟩ : ByteArray) ++ a = a := by
  apply bytes_ext
  simp [Go.Joins.data_append]
theorem empty_of {s : ByteArray} (h : s.size = 0) : s.toList.isEmpty = true := by
  rw [ByteArray.toList_eq, List.isEmpty_iff, ← List.length_eq_zero_iff, Array.length_toList]; exact h
theorem nonempty_of {s : ByteArray} (h : s.size ≠ 0) : s.toList.isEmpty = false := by
  rw [ByteArray.toList_eq, List.isEmpty_eq_false_iff]
  intro hh
  apply h
  show s.data.size = 0
  rw [← Array.length_toList, hh]; rfl
set_option maxHeartbeats 2000000 in
theorem evenPercents_any (s : ByteArray) (w : World) (hs : s.size ≤ 1048576) :
    Calls Tryz.prog 54 #[.string s] w fun e w' => e = .returned (.string (evB s)) ∧ Below w.heap.size w w' := by
  generalize hR : evB s = R
  have HR := hideB2 hR
  clear hR
  go_enter Tryz.func54, Tryz.ntmps54
  go_wp2
  go_loopw [0, 3] (fun sv ov wr => ∃ x y : ByteArray, sv = .string x ∧ ov = .string y ∧ y ++ evB x = R ∧ y.size + x.size ≤ 1048576 ∧ Below w.heap.size w wr) (fun sv _ _ => strLen sv)
  case atStart => exact ⟨s, ⟨#[]⟩, rfl, rfl, by rw [bytes_nil_left]; exact HR.out, by show 0 + s.size ≤ _; omega, Below.refl _ _⟩
  case round =>
    obtain ⟨x, y, rfl, rfl, hy, hsz, hb⟩ := hrel
    have HY := hideB2 hy
    have HB := hideB2 hb
    clear hy hb
    by_cases hx : x.size = 0
    · have hne := empty_of hx
      have HF := hideB2 (show R = y by rw [← HY.out, evB_nil hx, bytes_nil_right])
      clear hx
      go_wp2
      go_ret
      exact ⟨ret_str HF.out, HB.out⟩
    · have hne := nonempty_of hx
      have HE := hideB2 (fun W => evenPart_any x W (by unfold maxLen; omega) (by omega))
      have hst := evB_step (s := x) (by omega)
      have hl := evN_le (s := x) (by omega)
      have hp := evN_pos x
      have hle := evP_le x
      have HS := hideB2 (show (y ++ evP x) ++ evB (x.extract (evN x) x.size) = R by rw [bytes_assoc, ← hst]; exact HY.out)
      have hez : (x.extract (evN x) x.size).size = x.size - evN x := by rw [ByteArray.size_extract]; omega
      have hya : (y ++ evP x).size = y.size + (evP x).size := ByteArray.size_append
      have HZ := hideB2 (show (y ++ evP x).size + (x.extract (evN x) x.size).size ≤ 1048576 by omega)
      have HM := hideB2 (show (x.extract (evN x) x.size).size < x.size by omega)
      clear hst hez hya
      generalize evP x = p at *
      generalize evN x = n at *
      have c1 : (0 : Int) ≤ (n : Int) := by omega
      have c2 : (n : Int) ≤ (x.size : Int) := by omega
      go_wp2_with fail
      refine (HE.out _).mono ?_
      rintro e w1 ⟨rfl, hb1⟩
      have HB1 := hideB2 (below_then HB.out hb1)
      clear hb1 HB
      go_wp2
      go_roundw
      case rel => exact ⟨_, _, rfl, rfl, HS.out, HZ.out, HB1.out⟩
      case measure => exact HM.out
end Go.Proofs.YtmhohponikolfaaGreatDoor
namespace Go.Proofs.YtmhohponikolfaaGreatDoor
set_option linter.unusedVariables false
set_option linter.unusedSimpArgs false
open Go.RowKit
theorem keepS_dd {k : List ByteArray} {x : ByteArray} (h : eqB x dd = true) : keepS k x = k.take (k.length - 1) ∧ dotQ x = true := by
  unfold keepS dotQ
  rw [if_pos h, h, Bool.or_true, List.dropLast_eq_take]
  exact ⟨rfl, rfl⟩
theorem keepS_d1 {k : List ByteArray} {x : ByteArray} (h : eqB x dd = false) (h1 : eqB x d1 = true) : keepS k x = k ∧ dotQ x = true := by
  unfold keepS dotQ
  rw [h, h1]
  exact ⟨rfl, rfl⟩
theorem keepS_no {k : List ByteArray} {x : ByteArray} (h : eqB x dd = false) (h1 : eqB x d1 = false) : keepS k x = k ++ [x] ∧ dotQ x = false := by
  unfold keepS dotQ
  rw [h, h1]
  exact ⟨rfl, rfl⟩
theorem eqB_dd (x : ByteArray) : (x.toList == [46, 46]) = eqB x dd := by
  unfold eqB; rw [ByteArray.toList_eq dd]; rfl
theorem eqB_d1 (x : ByteArray) : (x.toList == [46]) = eqB x d1 := by
  unfold eqB; rw [ByteArray.toList_eq d1]; rfl
set_option maxRecDepth 100000 in
set_option maxHeartbeats 4000000 in
theorem keptPieces_any (v : Value) (L : List ByteArray) (w0 w : World) (hv : BufS w0 w v L) (hl : L.length ≤ 1048577) :
    Calls Tryz.prog 56 #[v] w fun e w' => ∃ v', e = .returned v' ∧ BufS w w' v' (keptL L) := by
  have hcells := fun (h : 0 < L.length) => hv.cells h
  obtain ⟨a, c0, rfl⟩ := hv.form
  have HC := hideB2 (show ∀ j, j < L.length → ∃ g, a = some ⟨g, 0, none⟩ ∧ g < w.heap.size ∧ w.cell? ⟨g, j, none⟩ = some (.string (L.getD j ⟨#[]⟩)) from fun j hj => by
    obtain ⟨g, cap, e, _, hlt, hc⟩ := hcells (by omega)
    injection e with e1
    exact ⟨g, e1, hlt, hc j hj⟩)
  clear hcells hv
  generalize hn : L.length = n at *
  have HN := hideB2 hn
  clear hn
  go_enter Tryz.func56, Tryz.ntmps56
  go_wp2
  go_loopw [3, 4, 9] (fun kv ev i wr => ∃ k : Nat, k ≤ n ∧ i = .int .i64 k ∧ ev = .bool (lastDot (L.take k)) ∧ BufS w wr kv (keepL (L.take k))) (fun _ _ i _ => n - (intOf i).toNat)
  case atStart => exact ⟨0, Nat.zero_le _, rfl, rfl, BufS.start w⟩
  case round =>
    obtain ⟨k, hk, rfl, rfl, hbuf⟩ := hrel
    have hlen : (keepL (L.take k)).length ≤ 1048577 := by
      have h1 := (keepL_le (L.take k)).1
      rw [List.length_take] at h1
      omega
    by_cases hlt : k < n
    · obtain ⟨g, rfl, hgl, hcell⟩ := HC.out k hlt
      have p0 : wr.cell? ⟨g, k, none⟩ = some (.string (L.getD k ⟨#[]⟩)) := (hbuf.below.cell (p := ⟨g, k, none⟩) hgl).trans hcell
      have hkL : k < L.length := by rw [HN.out]; exact hlt
      have hgx : L.getD k ⟨#[]⟩ = L[k] := by rw [List.getD, List.getElem?_eq_getElem hkL]; rfl
      have HT := hideB2 (keepL_take hkL)
      have HD := hideB2 (lastDot_take hkL)
      rw [← hgx] at HT HD
      clear hcell hgx
      generalize L.getD k ⟨#[]⟩ = x at *
      generalize keepL (L.take k) = K at *
      generalize lastDot (L.take k) = q at *
      cases hdd : eqB x dd
      · cases hd1 : eqB x d1
        · obtain ⟨e1, e2⟩ := keepS_no (k := K) hdd hd1
          have HT2 := hideB2 (HT.out.trans e1)
          have HD2 := hideB2 (HD.out.trans e2)
          rw [← eqB_dd] at hdd
          rw [← eqB_d1] at hd1
          clear e1 e2 HT HD
          go_wp2_with (at_builtin; refine wp_sapp rfl (.tmp 24) (.tmp 26) rfl _ _ rfl hbuf x rfl (by omega) ?_; intro v2 W2 hbuf2)
          go_roundw
          case rel => exact ⟨k + 1, by omega, by go_num, by rw [HD2.out], by rw [HT2.out]; exact hbuf2⟩
          case measure => simp [intOf]; omega
        · obtain ⟨e1, e2⟩ := keepS_d1 (k := K) hdd hd1
          have HT2 := hideB2 (HT.out.trans e1)
          have HD2 := hideB2 (HD.out.trans e2)
          rw [← eqB_dd] at hdd
          rw [← eqB_d1] at hd1
          clear e1 e2 HT HD
          have HBF := hideB2 hbuf
          clear hbuf
          go_wp2
          go_roundw
          case rel => exact ⟨k + 1, by omega, by go_num, by rw [HD2.out], by rw [HT2.out]; exact HBF.out⟩
          case measure => simp [intOf]; omega
      · obtain ⟨e1, e2⟩ := keepS_dd (k := K) hdd
        have HT2 := hideB2 (HT.out.trans e1)
        have HD2 := hideB2 (HD.out.trans e2)
        rw [← eqB_dd] at hdd
        clear e1 e2 HT HD
        rcases hbuf.own.2 with ⟨rfl, h0⟩ | ⟨g1, cap1, _, rfl, _, _, hcap, hmx, _⟩
        · obtain rfl : K = [] := List.eq_nil_of_length_eq_zero h0
          have HBF := hideB2 hbuf
          clear hbuf h0
          go_wp2
          go_roundw
          case rel => exact ⟨k + 1, by omega, by go_num, by rw [HD2.out], by rw [HT2.out]; exact HBF.out⟩
          case measure => simp [intOf]; omega
        · have HBF := hideB2 (hbuf.shrink (K.length - 1) (by omega))
          clear hbuf
          generalize K.length = q1 at *
          unfold maxLen at hmx
          by_cases hq1 : 1 ≤ q1
          · have e1 : IntKind.i64.wrap ((q1 : Int) - 1) = ((q1 - 1 : Nat) : Int) := by rw [IntKind.wrap_i64]; omega
            have e2 : ¬ (((q1 - 1 : Nat) : Int) < 0) := by omega
            have e3 : ((q1 - 1 : Nat) : Int) ≤ (cap1 : Int) := by omega
            generalize q1 - 1 = m at *
            go_wp2
            go_roundw
            case rel => exact ⟨k + 1, by omega, by go_num, by rw [HD2.out], by rw [HT2.out]; exact HBF.out⟩
            case measure => simp [intOf]; omega
          · obtain rfl : q1 = 0 := by omega
            go_wp2
            go_roundw
            case rel => exact ⟨k + 1, by omega, by go_num, by rw [HD2.out], by rw [HT2.out]; exact HBF.out⟩
            case measure => simp [intOf]; omega
    · obtain rfl : k = n := by omega
      have ht : L.take k = L := List.take_of_length_le (by rw [HN.out]; exact Nat.le_refl _)
      rw [ht] at hbuf hlen ⊢
      have HK := hideB2 (show keptL L = if lastDot L = true then keepL L ++ [⟨#[]⟩] else keepL L from rfl)
      clear ht
      generalize keepL L = K at *
      cases hq : lastDot L
      · rw [hq] at HK
        have HK2 := hideB2 (HK.out.trans (if_neg (by simp)))
        have HBF := hideB2 hbuf
        clear hq hbuf
        go_wp2
        go_ret
        exact ⟨_, rfl, by rw [HK2.out]; exact HBF.out⟩
      · rw [hq] at HK
        have HK2 := hideB2 (HK.out.trans (if_pos rfl))
        clear hq
        go_wp2_with (at_builtin; refine wp_sapp rfl (.tmp 30) (.tmp 31) rfl _ _ rfl hbuf ⟨#[]⟩ rfl (by omega) ?_; intro v2 W2 hbuf2)
        go_ret
        exact ⟨_, rfl, by rw [HK2.out]; exact hbuf2⟩
end Go.Proofs.YtmhohponikolfaaGreatDoor
namespace Go.Proofs.YtmhohponikolfaaGreatDoor
set_option linter.unusedVariables false
set_option linter.unusedSimpArgs false
open Go.RowKit
theorem keptL_le (l : List ByteArray) : (keptL l).length ≤ l.length + 1 ∧ sumS (keptL l) ≤ sumS l := by
  have h := keepL_le l
  unfold keptL
  split
  · have e : sumS (keepL l ++ [⟨#[]⟩]) = sumS (keepL l) := by simp [sumS]; rfl
    rw [List.length_append, List.length_singleton, e]; omega
  · omega
theorem joinS_size (c : UInt8) (l : List ByteArray) : (joinS c l).size ≤ l.length + sumS l := by
  cases l with
  | nil => show (0 : Nat) ≤ _; omega
  | cons x r =>
    have h1 := congrArg List.length (joinS_tail c x r)
    rw [tailS_len, List.length_cons, len_data] at h1
    omega
theorem clnL_join (l : List ByteArray) : (⟨#[47]⟩ : ByteArray) ++ joinS 47 l = clnL l := by
  apply bytes_ext
  rw [Go.Joins.data_append]
  cases l with
  | nil => rfl
  | cons x r =>
    unfold clnL
    rw [if_neg (by simp)]
    exact joinS_tail 47 x r
theorem splS_le (c : UInt8) (s : ByteArray) : (splS c s).length ≤ s.size + 1 ∧ sumS (splS c s) ≤ s.size := by
  have h1 := splS_len c s
  have h2 := splS_cnt c s
  have h3 := splS_sum c s.size s (Nat.le_refl _)
  omega
def slash1 (s : ByteArray) : Bool := decide (0 < s.size) && (at8 s 0 == 47)
theorem ext1_eq {s : ByteArray} (h : 0 < s.size) (c : UInt8) : ((s.extract 0 1).toList == [c]) = (at8 s 0 == c) := by
  rw [ByteArray.toList_eq, Lib.extract_data, drop_at8 (i := 0) h]
  simp
set_option maxHeartbeats 1000000 in
theorem HasPre1_any (s : ByteArray) (w : World) (hs : s.size ≤ maxLen) :
    Calls Tryz.prog 43 #[.string s, .string ⟨#[47]⟩] w fun e w' => e = .returned (.bool (slash1 s)) ∧ w' = w := by
  unfold maxLen at hs
  by_cases h0 : s.size = 0
  · have e : slash1 s = false := by unfold slash1; rw [h0]; rfl
    have h1 : ¬ (1 : Int) ≤ (s.size : Int) := by omega
    rw [e]
    clear e
    go_enter Tryz.func43, Tryz.ntmps43
    go_wp2
    go_ret
    exact ⟨rfl, rfl⟩
  · have e : slash1 s = (at8 s 0 == 47) := by unfold slash1; rw [decide_eq_true (by omega)]; rfl
    have h1 : (1 : Int) ≤ (s.size : Int) := by omega
    have h2 := ext1_eq (s := s) (by omega) 47
    rw [e]
    clear e h0
    generalize (at8 s 0 == 47) = q at *
    go_enter Tryz.func43, Tryz.ntmps43
    go_wp2
    go_ret
    exact ⟨by first | rfl | (rw [h2]), rfl⟩
theorem vis_ascii {s : ByteArray} (h : targQ s = true) : ∀ (j : Nat) (b : UInt8), s.data.toList[j]? = some b → b.toNat < 128 := by
  intro j b hj
  have h1 := (targQ_iff.1 h).2.2
  unfold allB at h1
  rw [List.all_eq_true] at h1
  have h2 := h1 b (List.mem_of_getElem? hj)
  unfold vis8 visP at h2
  simp at h2
  omega
theorem nof_mem (b : UInt8) : [35, 63].contains b = !nof8 b := by
  unfold nof8
  by_cases h1 : b = 35
  · subst h1; rfl
  · by_cases h2 : b = 63
    · subst h2; rfl
    · rw [bne_iff_ne.2 h1, bne_iff_ne.2 h2]
      simp [h1, h2]
theorem nof_list (l : List UInt8) : Lib.containsAny l [35, 63] = !l.all nof8 := by
  unfold Lib.containsAny
  induction l with
  | nil => rfl
  | cons b l ih =>
    have hge := Lib.indexAny_ge [35, 63] l
    rw [Lib.indexAny, nof_mem, List.all_cons]
    cases hb : nof8 b
    · simp
    · rw [Bool.true_and, ← ih]
      simp only [Bool.not_true, Bool.false_eq_true, if_false]
      by_cases h : Lib.indexAny l [35, 63] = -1
      · rw [if_pos (beq_iff_eq.2 h), h]
      · rw [if_neg (fun e => h (beq_iff_eq.1 e))]
        rw [decide_eq_true (by omega), decide_eq_true (by omega)]
theorem nof_any (s : ByteArray) : Lib.containsAny s.data.toList [35, 63] = !allB nof8 s := nof_list _
theorem ContNof_any (s : ByteArray) (w : World) (h : targQ s = true) :
    Calls Tryz.prog 52 #[.string s, .string ⟨#[35, 63]⟩] w fun e w' => e = .returned (.bool (!allB nof8 s)) ∧ Below w.heap.size w w' := by
  have hz := (targQ_iff.1 h).2.1
  refine (Any.strings_ContainsAny_laid Tryz.lays150 (by kernel_rfl) s ⟨#[35, 63]⟩ w (by omega) (by decide) (vis_ascii h) ?_).mono ?_
  · intro j b hj
    have hm := List.mem_of_getElem? hj
    simp only [List.mem_cons, List.not_mem_nil, or_false] at hm
    rcases hm with rfl | rfl <;> decide
  · rintro e w' ⟨rfl, hb⟩
    exact ⟨ret_bool (nof_any s).symm, hb⟩
theorem pthQ_no1 {s : ByteArray} (h : slash1 s = false) : pthQ s = false := by
  unfold pthQ
  cases ht : targQ s
  · rfl
  · have h0 := (targQ_iff.1 ht).1
    unfold slash1 at h
    rw [decide_eq_true (by omega), Bool.true_and] at h
    rw [h]; rfl
theorem pthQ_no2 {s : ByteArray} (h : targQ s = false) : pthQ s = false := by unfold pthQ; rw [h]; rfl
theorem pthQ_no3 {s : ByteArray} (h : allB nof8 s = false) : pthQ s = false := by unfold pthQ; rw [h, Bool.and_false]
theorem pthQ_yes {s : ByteArray} (h1 : slash1 s = true) (h2 : targQ s = true) (h3 : allB nof8 s = true) : pthQ s = true := by
  unfold pthQ
  unfold slash1 at h1
  rw [Bool.and_eq_true] at h1
  rw [h2, h1.2, h3]; rfl
theorem clnB_no {s : ByteArray} (h : pthQ s = false) : clnB s = ⟨#[]⟩ := by unfold clnB; rw [if_neg (by rw [h]; simp)]
theorem clnB_yes {s : ByteArray} (h : pthQ s = true) : clnB s = clnL (keptL (splS 47 (evB (s.extract 1 s.size)))) := by unfold clnB; rw [if_pos h]
set_option maxHeartbeats 4000000 in
theorem CleanPath_any (s : ByteArray) (w : World) (hs : s.size ≤ maxLen) :
    Calls Tryz.prog 21 #[.string s] w fun e w' => e = .returned (.string (clnB s)) ∧ Below w.heap.size w w' := by
  have H1 := hideB2 (fun W => HasPre1_any s W hs)
  cases q1 : slash1 s
  · rw [clnB_no (pthQ_no1 q1)]
    rw [q1] at H1
    clear q1
    go_enter Tryz.func21, Tryz.ntmps21
    go_wp2_with (go_at_call 43; refine (H1.out _).mono ?_; rintro e w' ⟨rfl, rfl⟩)
    go_ret
    exact ⟨rfl, Below.refl _ _⟩
  · rw [q1] at H1
    have H2 := hideB2 (fun W => targetOk_any s W hs)
    cases q2 : targQ s
    · rw [clnB_no (pthQ_no2 q2)]
      rw [q2] at H2
      clear q1 q2
      go_enter Tryz.func21, Tryz.ntmps21
      go_wp2_with (first | (go_at_call 43; refine (H1.out _).mono ?_; rintro e w' ⟨rfl, rfl⟩) | (go_at_call 41; refine (H2.out _).mono ?_; rintro e w' ⟨rfl, rfl⟩))
      go_ret
      exact ⟨rfl, Below.refl _ _⟩
    · rw [q2] at H2
      have H3 := hideB2 (fun W => ContNof_any s W q2)
      cases q3 : allB nof8 s
      · rw [clnB_no (pthQ_no3 q3)]
        rw [q3] at H3
        clear q1 q2 q3
        go_enter Tryz.func21, Tryz.ntmps21
        go_wp2_with (first | (go_at_call 43; refine (H1.out _).mono ?_; rintro e w' ⟨rfl, rfl⟩) | (go_at_call 41; refine (H2.out _).mono ?_; rintro e w' ⟨rfl, rfl⟩) | (go_at_call 52; refine (H3.out _).mono ?_; rintro e w' ⟨rfl, hb⟩))
        go_ret
        exact ⟨rfl, hb⟩
      · rw [q3] at H3
        rw [clnB_yes (pthQ_yes q1 q2 q3)]
        have hz := (targQ_iff.1 q2).2.1
        have hz1 := (targQ_iff.1 q2).1
        have c1 : (1 : Int) ≤ (s.size : Int) := by omega
        have hx : (s.extract 1 s.size).size ≤ 200 := by rw [ByteArray.size_extract]; omega
        clear q1 q2 q3
        generalize hxx : s.extract 1 s.size = x at *
        have H4 := hideB2 (fun W => evenPercents_any x W (by omega))
        have hev := evB_size x
        generalize evB x = y at *
        have H5 := hideB2 (fun W => SplitS_any y 47 W (by omega))
        have hsp := splS_le 47 y
        generalize splS 47 y = L at *
        have H6 := hideB2 (fun w0 w1 v (h : BufS w0 w1 v L) => keptPieces_any v L w0 w1 h (by omega))
        have hkp := keptL_le L
        generalize keptL L = K at *
        have H7 := hideB2 (fun w0 w1 v (h : BufS w0 w1 v K) => JoinS_any w0 w1 v 47 K h (by omega) (by have := joinS_size 47 K; omega))
        have HR := hideB2 (clnL_join K)
        have hjs := joinS_size 47 K
        have hjz : (joinS 47 K).size ≤ 1000 := by omega
        clear hkp hsp hev hjs
        generalize joinS 47 K = z at *
        go_enter Tryz.func21, Tryz.ntmps21
        go_wp2_with (first | (go_at_call 43; refine (H1.out _).mono ?_; rintro e w' ⟨rfl, rfl⟩) | (go_at_call 41; refine (H2.out _).mono ?_; rintro e w' ⟨rfl, rfl⟩) | (go_at_call 52; refine (H3.out _).mono ?_; rintro e w3 ⟨rfl, hb3⟩) | (go_at_call 54; (try rw [hxx]); refine (H4.out _).mono ?_; rintro e w4 ⟨rfl, hb4⟩) | (go_at_call 53; refine (H5.out _).mono ?_; rintro e w5 ⟨v5, rfl, hb5⟩) | (go_at_call 56; refine (H6.out _ _ _ hb5).mono ?_; rintro e w6 ⟨v6, rfl, hb6⟩) | (go_at_call 55; refine (H7.out _ _ _ hb6).mono ?_; rintro e w7 ⟨rfl, hb7⟩))
        go_ret
        exact ⟨ret_str HR.out.symm, below_then (below_then (below_then (below_then hb3 hb4) hb5.below) hb6.below) hb7⟩
end Go.Proofs.YtmhohponikolfaaGreatDoor
namespace Go.Proofs.YtmhohponikolfaaGreatDoor
set_option linter.unusedVariables false
set_option linter.unusedSimpArgs false
open Go.RowKit
set_option maxRecDepth 100000 in
set_option maxHeartbeats 4000000 in
theorem l7split_any (s : ByteArray) (c : UInt8) (w : World) (hs : s.size ≤ 1048576) :
    Calls Tryz.prog 58 #[.string s, .int .u8 (c.toNat : Int)] w fun e w' => ∃ v, e = .returned v ∧ BufS w w' v (splS c s) := by
  have hsl := (splS_le c s).1
  generalize hR : splS c s = R at *
  have HR := hideB2 hR
  clear hR
  go_enter Tryz.func58, Tryz.ntmps58
  go_wp2
  go_loopw [5, 6, 7] (fun ov fv i wr => ∃ (k f : Nat) (o : List ByteArray), i = .int .i64 k ∧ fv = .int .i64 f ∧ BufS w wr ov o ∧ o.length ≤ s.size + 1 ∧ ((k ≤ s.size ∧ f ≤ k ∧ (∀ j, f ≤ j → j < k → at8 s j ≠ c) ∧ o ++ splS c (s.extract f s.size) = R) ∨ (k = s.size + 1 ∧ o = R))) (fun _ _ i _ => s.size + 1 - (intOf i).toNat)
  case atStart => exact ⟨0, 0, [], rfl, rfl, BufS.start w, by simp, .inl ⟨Nat.zero_le _, Nat.le_refl _, fun j _ hj => by omega, by rw [List.nil_append, ← HR.out]; congr 1; apply bytes_ext; rw [Lib.extract_data, List.drop_zero]; exact List.take_of_length_le (by rw [len_data]; omega)⟩⟩
  case round =>
    obtain ⟨k, f, o, rfl, rfl, hbuf, hol, hcase⟩ := hrel
    have HOL := hideB2 hol
    clear hol
    rcases hcase with ⟨hk, hf, hno, ho⟩ | ⟨rfl, rfl⟩
    · have HNO := hideB2 hno
      have HO := hideB2 ho
      clear hno ho
      have c1 : (0 : Int) ≤ (f : Int) := by omega
      have c2 : (f : Int) ≤ (k : Int) := by omega
      have c3 : (k : Int) ≤ (s.size : Int) := by omega
      have hol2 : o.length ≤ 1073741824 := by have := HOL.out; omega
      by_cases hlt : k < s.size
      · have hkeq : ((k : Int) == (s.size : Int)) = false := by rw [beq_eq_false_iff_ne]; omega
        have hat : s[k] = at8 s k := at8_eq s k hlt
        have hcc : ((s[k].toNat : Int) == (c.toNat : Int)) = (at8 s k == c) := by rw [hat]; exact u8_beq _ _
        clear hat
        cases hq : (at8 s k == c)
        · rw [hq] at hcc
          have HQ := hideB2 (show at8 s k ≠ c from beq_eq_false_iff_ne.1 hq)
          have HBF := hideB2 hbuf
          clear hq hbuf
          go_wp2
          go_roundw
          case rel => exact ⟨k + 1, f, o, by go_num, rfl, HBF.out, HOL.out, .inl ⟨by omega, by omega, fun j h1 h2 => by
            by_cases e : j = k
            · subst e; exact HQ.out
            · exact HNO.out j h1 (by omega), HO.out⟩⟩
          case measure => simp [intOf]; omega
        · rw [hq] at hcc
          have hstep := splS_step (c := c) hf hlt (beq_iff_eq.1 hq) HNO.out
          have HN := hideB2 (show (o ++ [s.extract f k]) ++ splS c (s.extract (k + 1) s.size) = R by rw [List.append_assoc, List.singleton_append, ← hstep]; exact HO.out)
          have HL := hideB2 (show (o ++ [s.extract f k]).length ≤ s.size + 1 by
            have h1 := congrArg List.length HN.out
            rw [List.length_append] at h1
            omega)
          clear hq hstep
          go_wp2_with (at_builtin; refine wp_sapp rfl (.tmp 25) (.tmp 30) rfl _ _ rfl hbuf (s.extract f k) rfl hol2 ?_; intro v2 W2 hbuf2)
          go_roundw
          case rel => exact ⟨k + 1, k + 1, _, by go_num, by go_num, hbuf2, HL.out, .inl ⟨by omega, Nat.le_refl _, fun j h1 h2 => by omega, HN.out⟩⟩
          case measure => simp [intOf]; omega
      · obtain rfl : k = s.size := by omega
        have hkeq : ((s.size : Int) == (s.size : Int)) = true := by simp
        have hend := splS_end (c := c) HNO.out
        have HN := hideB2 (show o ++ [s.extract f s.size] = R by rw [← hend]; exact HO.out)
        have HL := hideB2 (show (o ++ [s.extract f s.size]).length ≤ s.size + 1 by rw [HN.out]; omega)
        clear hend
        go_wp2_with (at_builtin; refine wp_sapp rfl (.tmp 25) (.tmp 30) rfl _ _ rfl hbuf (s.extract f s.size) rfl hol2 ?_; intro v2 W2 hbuf2)
        go_roundw
        case rel => exact ⟨s.size + 1, s.size + 1, _, by go_num, by go_num, hbuf2, HL.out, .inr ⟨rfl, HN.out⟩⟩
        case measure => simp [intOf]
    · have c3 : ¬ ((s.size : Int) + 1 ≤ (s.size : Int)) := by omega
      have HBF := hideB2 hbuf
      clear hbuf
      go_wp2
      go_ret
      exact ⟨_, rfl, HBF.out⟩
/-- What is kept when k pieces have been gone through, the end looked at in the last one's round. -/
def midL (L : List ByteArray) (k : Nat) : List ByteArray := if k = L.length then keptL L else keepL (L.take k)
theorem midL_zero {L : List ByteArray} (h : 0 < L.length) : midL L 0 = [] := by unfold midL; rw [if_neg (show ¬ 0 = L.length by omega)]; rfl
theorem midL_next {L : List ByteArray} {k : Nat} (h : k + 1 < L.length) : midL L (k + 1) = keepS (midL L k) (L.getD k ⟨#[]⟩) := by
  unfold midL
  rw [if_neg (show ¬ k + 1 = L.length by omega), if_neg (show ¬ k = L.length by omega), keepL_take (by omega), List.getD, List.getElem?_eq_getElem (by omega)]
  rfl
theorem midL_last {L : List ByteArray} {k : Nat} (h : k + 1 = L.length) : midL L (k + 1) = if dotQ (L.getD k ⟨#[]⟩) = true then keepS (midL L k) (L.getD k ⟨#[]⟩) ++ [⟨#[]⟩] else keepS (midL L k) (L.getD k ⟨#[]⟩) := by
  have hk : k < L.length := by omega
  have e : L.take (k + 1) = L := List.take_of_length_le (by omega)
  have h1 := keepL_take hk
  have h2 := lastDot_take hk
  rw [e] at h1 h2
  unfold midL
  rw [if_pos h, if_neg (show ¬ k = L.length by omega), List.getD, List.getElem?_eq_getElem hk]
  unfold keptL
  rw [h1, h2]
  rfl
theorem midL_len (L : List ByteArray) (k : Nat) : (midL L k).length ≤ L.length + 1 := by
  unfold midL
  split
  · exact (keptL_le L).1
  · have h := (keepL_le (L.take k)).1
    rw [List.length_take] at h; omega
theorem evB_slash {s : ByteArray} (h : 0 < s.size) (h47 : at8 s 0 = 47) : (evB s).extract 1 (evB s).size = evB (s.extract 1 s.size) ∧ 1 ≤ (evB s).size := by
  have e := drop_at8 (i := 0) h
  rw [List.drop_zero, h47] at e
  have e1 : evL s.data.toList = 47 :: evL (s.data.toList.drop 1) := by
    conv => lhs; rw [e]
    refine evL_miss ?_
    rintro ⟨hh, _⟩
    cases hh
  have e2 : (s.extract 1 s.size).data.toList = s.data.toList.drop 1 := by
    rw [Lib.extract_data]
    exact List.take_of_length_le (by rw [List.length_drop, len_data]; omega)
  have e3 : (evB s).data.toList = 47 :: evL (s.data.toList.drop 1) := e1
  have e4 : (evB s).size = (evL (s.data.toList.drop 1)).length + 1 := by
    rw [← len_data, e3, List.length_cons]
  refine ⟨?_, by omega⟩
  apply bytes_ext
  rw [Lib.extract_data, e3, List.drop_succ_cons, List.drop_zero, e4]
  show _ = evL (s.extract 1 s.size).data.toList
  rw [e2]
  exact List.take_of_length_le (by omega)
def tailB (l : List ByteArray) : ByteArray := ⟨(tailS 47 l).toArray⟩
theorem tailB_next (l : List ByteArray) (k : Nat) (h : k < l.length) : tailB (l.take k) ++ (⟨#[47]⟩ : ByteArray) ++ l.getD k ⟨#[]⟩ = tailB (l.take (k + 1)) := by
  apply bytes_ext
  rw [List.take_succ_eq_append_getElem h, List.getD, List.getElem?_eq_getElem h]
  unfold tailB
  rw [tailS_snoc]
  simp [Go.Joins.data_append]
theorem tailS_take (c : UInt8) (l : List ByteArray) (k : Nat) : (tailS c (l.take k)).length ≤ (tailS c l).length := by
  conv => rhs; rw [← List.take_append_drop k l]
  unfold tailS Lib.joinTail
  rw [List.map_append, List.map_append, List.flatten_append, List.length_append]
  omega
theorem tailB_size (l : List ByteArray) (k : Nat) : (tailB (l.take k)).size ≤ l.length + sumS l := by
  have h := tailS_take 47 l k
  have h2 := tailS_len 47 l
  show (tailS 47 (l.take k)).toArray.size ≤ _
  rw [List.size_toArray]
  omega
theorem clnL_tail (l : List ByteArray) : clnL l = if (tailB l).size = 0 then ⟨#[47]⟩ else tailB l := by
  unfold clnL
  have hz : (tailB l).size = l.length + sumS l := by
    show (tailS 47 l).toArray.size = _
    rw [← tailS_len 47 l]; simp
  cases l with
  | nil => rfl
  | cons x r => rw [if_neg (by simp), if_neg (by rw [hz]; simp)]; rfl
theorem dd_d1 : eqB dd d1 = false := by
  unfold eqB; rw [ByteArray.toList_eq, ByteArray.toList_eq]; rfl
theorem nof_no {s : ByteArray} {k : Nat} (hk : k < s.size) (h : at8 s k = 35 ∨ at8 s k = 63) : pthQ s = false :=
  pthQ_no3 (allB_no hk (by rcases h with h | h <;> rw [h] <;> rfl))
theorem vis_size {s : ByteArray} (h : (decide (0 < (s.size : Int)) && allB vis8 s) = true) (hz : s.size ≤ 200) : targQ s = true := by
  rw [Bool.and_eq_true, decide_eq_true_eq] at h
  exact targQ_iff.2 ⟨by omega, hz, h.2⟩
theorem vis_no {s : ByteArray} (h : (decide (0 < (s.size : Int)) && allB vis8 s) = false) : targQ s = false := by
  cases ht : targQ s with
  | false => rfl
  | true =>
    obtain ⟨h1, _, h3⟩ := targQ_iff.1 ht
    rw [decide_eq_true (by omega), h3] at h
    cases h
set_option maxRecDepth 100000 in
set_option maxHeartbeats 8000000 in
theorem sCleanPath_any (s : ByteArray) (w : World) (hs : s.size ≤ maxLen) :
    Calls Tryz.prog 22 #[.string s] w fun e w' => e = .returned (.string (clnB s)) ∧ Below w.heap.size w w' := by
  have hs' := hs
  unfold maxLen at hs'
  by_cases h0 : s.size = 0
  · have hF := clnB_no (s := s) (pthQ_no2 (by cases ht : targQ s with | false => rfl | true => have := (targQ_iff.1 ht).1; omega))
    rw [hF]
    have e0 : ((s.size : Int) == 0) = true := by rw [beq_iff_eq]; omega
    clear hF
    go_enter Tryz.func22, Tryz.ntmps22
    go_wp2
    go_ret
    exact ⟨rfl, Below.refl _ _⟩
  · have e0 : ((s.size : Int) == 0) = false := by rw [beq_eq_false_iff_ne]; omega
    by_cases h200 : s.size ≤ 200
    · have e1 : ¬ ((200 : Int) < (s.size : Int)) := by omega
      have hat : s[0] = at8 s 0 := at8_eq s 0 (by omega)
      by_cases h47 : at8 s 0 = 47
      · have e2 : ((s[0].toNat : Int) != 47) = false := by rw [hat, h47]; rfl
        have HV := hideB2 (fun W => l6visible_any s W hs)
        cases hv : (decide (0 < (s.size : Int)) && allB vis8 s)
        · rw [hv] at HV
          rw [clnB_no (pthQ_no2 (vis_no hv))]
          clear hv hat h47
          go_enter Tryz.func22, Tryz.ntmps22
          go_wp2_with (go_at_call 57; refine (HV.out _).mono ?_; rintro e w' ⟨rfl, rfl⟩)
          go_ret
          exact ⟨rfl, Below.refl _ _⟩
        · rw [hv] at HV
          have HT := hideB2 (vis_size hv h200)
          have HS1 := hideB2 (show slash1 s = true by unfold slash1; rw [decide_eq_true (by omega), beq_iff_eq.2 h47]; rfl)
          obtain ⟨g1, g2⟩ := evB_slash (s := s) (by omega) h47
          have HEV := hideB2 (fun W => l7percent_any s W (by omega))
          have hez := evB_size s
          clear hv hat h47
          generalize hR : clnB s = R
          have HR := hideB2 hR
          clear hR
          go_enter Tryz.func22, Tryz.ntmps22
          go_wp2_with (go_at_call 57; refine (HV.out _).mono ?_; rintro e w' ⟨rfl, rfl⟩)
          go_loop [3] (fun i => ∃ k : Nat, k ≤ s.size ∧ i = .int .i64 k ∧ ∀ j, j < k → nof8 (at8 s j) = true) (fun i => s.size - (intOf i).toNat)
          case atStart => exact ⟨0, Nat.zero_le _, rfl, fun j hj => by omega⟩
          case round =>
            obtain ⟨k, hk, rfl, hall⟩ := hrel
            have Hall := hideB2 hall
            clear hall
            by_cases hlt : k < s.size
            · have hat : s[k] = at8 s k := at8_eq s k hlt
              have q35 : ((s[k].toNat : Int) == 35) = (at8 s k == 35) := by rw [hat]; exact u8_beq _ 35
              have q63 : ((s[k].toNat : Int) == 63) = (at8 s k == 63) := by rw [hat]; exact u8_beq _ 63
              clear hat
              cases h35 : (at8 s k == 35)
              · rw [h35] at q35
                cases h63 : (at8 s k == 63)
                · rw [h63] at q63
                  have HN := hideB2 (show nof8 (at8 s k) = true by unfold nof8; rw [bne, bne, h35, h63]; rfl)
                  clear h35 h63
                  go_wp2
                  go_round
                  case rel => exact ⟨k + 1, by omega, by go_num, all_succ Hall.out HN.out⟩
                  case measure => simp [intOf]; omega
                · rw [h63] at q63
                  have HF := hideB2 (show R = ⟨#[]⟩ by rw [← HR.out]; exact clnB_no (nof_no hlt (.inr (beq_iff_eq.1 h63))))
                  clear h35 h63
                  go_wp2
                  go_ret
                  exact ⟨ret_str HF.out, Below.refl _ _⟩
              · rw [h35] at q35
                have HF := hideB2 (show R = ⟨#[]⟩ by rw [← HR.out]; exact clnB_no (nof_no hlt (.inl (beq_iff_eq.1 h35))))
                clear h35
                go_wp2
                go_ret
                exact ⟨ret_str HF.out, Below.refl _ _⟩
            · have hn := allB_yes (p := nof8) (s := s) (fun j hj => Hall.out j (by omega))
              have hcl := clnB_yes (pthQ_yes HS1.out HT.out hn)
              rw [← g1] at hcl
              have HSP := hideB2 (fun W => l7split_any ((evB s).extract 1 (evB s).size) 47 W (by rw [ByteArray.size_extract]; omega))
              have hls := splS_le 47 ((evB s).extract 1 (evB s).size)
              have hne := splS_ne 47 ((evB s).extract 1 (evB s).size)
              have hxz : ((evB s).extract 1 (evB s).size).size ≤ 200 := by rw [ByteArray.size_extract]; omega
              have HCL := hideB2 (HR.out.symm.trans hcl)
              change Hid (∀ W, Calls _ _ #[_, .int .u8 47] W _) at HSP
              clear hn hcl HR HS1 HT Hall g1
              generalize hyy : evB s = y at *
              have c1 : (1 : Int) ≤ (y.size : Int) := by omega
              generalize hxx : y.extract 1 y.size = x at *
              generalize splS 47 x = L at *
              have hnL : 0 < L.length := List.length_pos_iff.2 hne
              clear hne
              go_wp2_with fail
              refine (HEV.out _).mono ?_
              rintro e w1 ⟨rfl, hb1⟩
              go_wp2_with fail
              refine (HSP.out _).mono ?_
              rintro e w2 ⟨v2, rfl, hbuf2⟩
              have hB2 := below_then hb1 hbuf2.below
              have hcells := fun (h : 0 < L.length) => hbuf2.cells h
              obtain ⟨a, c0, rfl⟩ := hbuf2.form
              have HC := hideB2 (show ∀ j, j < L.length → ∃ g, a = some ⟨g, 0, none⟩ ∧ g < w2.heap.size ∧ w2.cell? ⟨g, j, none⟩ = some (.string (L.getD j ⟨#[]⟩)) from fun j hj => by
                obtain ⟨g, cap, e, _, hlt, hc⟩ := hcells (by omega)
                injection e with e1
                exact ⟨g, e1, hlt, hc j hj⟩)
              have HB2 := hideB2 hB2
              have HKL := hideB2 (midL_len L)
              have HKE := hideB2 (show midL L L.length = keptL L by unfold midL; rw [if_pos rfl])
              have HKZ := hideB2 (keptL_le L)
              have HM0 := hideB2 (midL_zero hnL)
              clear hcells hbuf2 hB2 hb1
              generalize hn : L.length = n at *
              have HN := hideB2 hn
              have hn200 : n ≤ 201 := by omega
              clear hn
              go_wp2
              go_loopw [5, 6] (fun kv i wr => ∃ k : Nat, k ≤ n ∧ i = .int .i64 k ∧ BufS w2 wr kv (midL L k)) (fun _ i _ => n - (intOf i).toNat)
              case atStart => exact ⟨0, Nat.zero_le _, rfl, by rw [HM0.out]; exact BufS.start w2⟩
              case round =>
                obtain ⟨k, hk, rfl, hbuf⟩ := hrel
                have hlen := HKL.out k
                by_cases hlt : k < n
                · obtain ⟨g, rfl, hgl, hcell⟩ := HC.out k hlt
                  have p0 : wr.cell? ⟨g, k, none⟩ = some (.string (L.getD k ⟨#[]⟩)) := (hbuf.below.cell (p := ⟨g, k, none⟩) hgl).trans hcell
                  have HX1 := hideB2 (fun (h : k + 1 ≠ n) => midL_next (L := L) (k := k) (by rw [HN.out]; omega))
                  have HX2 := hideB2 (fun (h : k + 1 = n) => midL_last (L := L) (k := k) (by rw [HN.out]; omega))
                  clear hcell
                  generalize L.getD k ⟨#[]⟩ = x at *
                  generalize midL L k = K at *
                  have e1 : IntKind.i64.wrap ((k : Int) + 1) = (k : Int) + 1 := by rw [IntKind.wrap_i64]; omega
                  cases hdd : eqB x dd
                  · cases hd1 : eqB x d1
                    · obtain ⟨k1, k2⟩ := keepS_no (k := K) hdd hd1
                      have HT := hideB2 (show midL L (k + 1) = K ++ [x] by
                        by_cases hlast : k + 1 = n
                        · rw [HX2.out hlast, if_neg (by rw [k2]; simp), k1]
                        · rw [HX1.out hlast, k1])
                      rw [← eqB_dd] at hdd
                      rw [← eqB_d1] at hd1
                      clear k1 k2 HX1 HX2
                      go_wp2_with (at_builtin; refine wp_sapp rfl (.tmp 83) (.tmp 88) rfl _ _ rfl hbuf x rfl (by omega) ?_; intro v5 W5 hbuf5)
                      go_roundw
                      case rel => exact ⟨k + 1, by omega, by go_num, by rw [HT.out]; exact hbuf5⟩
                      case measure => simp [intOf]; omega
                    · obtain ⟨k1, k2⟩ := keepS_d1 (k := K) hdd hd1
                      have HK2 := hideB2 k1
                      have HD2 := hideB2 k2
                      have HBF := hideB2 hbuf
                      rw [← eqB_dd] at hdd
                      rw [← eqB_d1] at hd1
                      clear k1 k2 hbuf
                      by_cases hlast : k + 1 = n
                      · have hle : ((k : Int) + 1 == (n : Int)) = true := by rw [beq_iff_eq]; omega
                        have HT := hideB2 ((HX2.out hlast).trans (if_pos HD2.out))
                        rw [HK2.out] at HT
                        have hbq := HBF.out
                        clear HX1 HX2
                        go_wp2_with (at_builtin; refine wp_sapp rfl (.tmp 95) (.tmp 96) rfl _ _ rfl hbq ⟨#[]⟩ rfl (by omega) ?_; intro v5 W5 hbuf5)
                        go_roundw
                        case rel => exact ⟨k + 1, by omega, by go_num, by rw [HT.out]; exact hbuf5⟩
                        case measure => simp [intOf]; omega
                      · have hle : ((k : Int) + 1 == (n : Int)) = false := by rw [beq_eq_false_iff_ne]; omega
                        have HT := hideB2 (HX1.out hlast)
                        rw [HK2.out] at HT
                        clear HX1 HX2
                        go_wp2
                        go_roundw
                        case rel => exact ⟨k + 1, by omega, by go_num, by rw [HT.out]; exact HBF.out⟩
                        case measure => simp [intOf]; omega
                  · obtain ⟨k1, k2⟩ := keepS_dd (k := K) hdd
                    have hd1 : eqB x d1 = false := by
                      have := eqB_iff.1 hdd
                      subst this
                      exact dd_d1
                    have HK2 := hideB2 k1
                    have HD2 := hideB2 k2
                    rw [← eqB_dd] at hdd
                    rw [← eqB_d1] at hd1
                    clear k1 k2
                    by_cases hq1 : 1 ≤ K.length
                    · rcases hbuf.own.2 with ⟨rfl, h00⟩ | ⟨g1, cap1, _, rfl, _, _, hcap, hmx, _⟩
                      · omega
                      · have HBF := hideB2 (hbuf.shrink (K.length - 1) (by omega))
                        have hq2 : (K.take (K.length - 1)).length ≤ 202 := by rw [List.length_take]; omega
                        clear hbuf
                        generalize hK2 : K.take (K.length - 1) = K2 at *
                        generalize K.length = q1 at *
                        unfold maxLen at hmx
                        have e2 : IntKind.i64.wrap ((q1 : Int) - 1) = ((q1 - 1 : Nat) : Int) := by rw [IntKind.wrap_i64]; omega
                        have e3 : ((q1 - 1 : Nat) : Int) ≤ (cap1 : Int) := by omega
                        have e4 : (0 : Int) < (q1 : Int) := by omega
                        generalize q1 - 1 = m at *
                        by_cases hlast : k + 1 = n
                        · have hle : ((k : Int) + 1 == (n : Int)) = true := by rw [beq_iff_eq]; omega
                          have HT := hideB2 ((HX2.out hlast).trans (if_pos HD2.out))
                          rw [HK2.out] at HT
                          have hbq := HBF.out
                          clear HX1 HX2
                          go_wp2_with (at_builtin; refine wp_sapp rfl (.tmp 95) (.tmp 96) rfl _ _ rfl hbq ⟨#[]⟩ rfl (by omega) ?_; intro v5 W5 hbuf5)
                          go_roundw
                          case rel => exact ⟨k + 1, by omega, by go_num, by rw [HT.out]; exact hbuf5⟩
                          case measure => simp [intOf]; omega
                        · have hle : ((k : Int) + 1 == (n : Int)) = false := by rw [beq_eq_false_iff_ne]; omega
                          have HT := hideB2 (HX1.out hlast)
                          rw [HK2.out] at HT
                          clear HX1 HX2
                          go_wp2
                          go_roundw
                          case rel => exact ⟨k + 1, by omega, by go_num, by rw [HT.out]; exact HBF.out⟩
                          case measure => simp [intOf]; omega
                    · have hK0 : K = [] := List.eq_nil_of_length_eq_zero (by omega)
                      subst hK0
                      obtain ⟨a1, c1', rfl⟩ := hbuf.form
                      have HBF := hideB2 hbuf
                      clear hbuf
                      by_cases hlast : k + 1 = n
                      · have hle : ((k : Int) + 1 == (n : Int)) = true := by rw [beq_iff_eq]; omega
                        have HT := hideB2 ((HX2.out hlast).trans (if_pos HD2.out))
                        rw [HK2.out] at HT
                        have hbq := HBF.out
                        clear HX1 HX2
                        go_wp2_with (at_builtin; refine wp_sapp rfl (.tmp 95) (.tmp 96) rfl _ _ rfl hbq ⟨#[]⟩ rfl (by omega) ?_; intro v5 W5 hbuf5)
                        go_roundw
                        case rel => exact ⟨k + 1, by omega, by go_num, by rw [HT.out]; exact hbuf5⟩
                        case measure => simp [intOf]; omega
                      · have hle : ((k : Int) + 1 == (n : Int)) = false := by rw [beq_eq_false_iff_ne]; omega
                        have HT := hideB2 (HX1.out hlast)
                        rw [HK2.out] at HT
                        clear HX1 HX2
                        go_wp2
                        go_roundw
                        case rel => exact ⟨k + 1, by omega, by go_num, by rw [HT.out]; exact HBF.out⟩
                        case measure => simp [intOf]; omega
                · obtain rfl : k = n := by omega
                  rw [HKE.out] at hbuf hlen
                  have hkz := HKZ.out
                  generalize hKK : keptL L = K at *
                  have hkc := fun (h : 0 < K.length) => hbuf.cells h
                  obtain ⟨a1, c1', rfl⟩ := hbuf.form
                  have HCK := hideB2 (show ∀ j, j < K.length → ∃ g, a1 = some ⟨g, 0, none⟩ ∧ wr.cell? ⟨g, j, none⟩ = some (.string (K.getD j ⟨#[]⟩)) from fun j hj => by
                    obtain ⟨g, cap, e, _, _, hc⟩ := hkc (by omega)
                    injection e with e1
                    exact ⟨g, e1, hc j hj⟩)
                  have HB := hideB2 (below_then HB2.out hbuf.below)
                  have HCL2 := hideB2 (HCL.out.trans (clnL_tail K))
                  clear hkc hbuf HKL HKE HKZ HM0 HC
                  generalize hq : K.length = q at *
                  have HQ := hideB2 hq
                  clear hq
                  have hsum : sumS K ≤ 200 := by omega
                  go_wp2
                  go_loop [8, 9] (fun sv i => ∃ k : Nat, k ≤ q ∧ i = .int .i64 k ∧ sv = .string (tailB (K.take k))) (fun _ i => q - (intOf i).toNat)
                  case atStart => exact ⟨0, Nat.zero_le _, rfl, rfl⟩
                  case round =>
                    obtain ⟨k2, hk2, rfl, rfl⟩ := hrel
                    by_cases hlt2 : k2 < q
                    · obtain ⟨g, rfl, p0⟩ := HCK.out k2 hlt2
                      have HNX := hideB2 (tailB_next K k2 (by rw [HQ.out]; exact hlt2))
                      have hz1 := tailB_size K k2
                      have hz2 : (K.getD k2 ⟨#[]⟩).size ≤ sumS K := by
                        have h1 : k2 < K.length := by rw [HQ.out]; exact hlt2
                        rw [List.getD, List.getElem?_eq_getElem h1]
                        exact sumS_mem (List.getElem_mem h1)
                      rw [HQ.out] at hz1
                      generalize K.getD k2 ⟨#[]⟩ = x at *
                      generalize tailB (K.take k2) = y at *
                      go_wp2
                      go_round
                      case rel => exact ⟨k2 + 1, by omega, by go_num, by rw [← HNX.out]⟩
                      case measure => simp [intOf]; omega
                    · obtain rfl : k2 = q := by omega
                      have HE := hideB2 (show K.take k2 = K from List.take_of_length_le (by rw [HQ.out]; exact Nat.le_refl _))
                      rw [HE.out]
                      clear HE
                      by_cases hz : (tailB K).size = 0
                      · have hne := empty_of hz
                        have HF := hideB2 (HCL2.out.trans (if_pos hz))
                        clear hz
                        generalize tailB K = y at *
                        go_wp2
                        go_ret
                        exact ⟨ret_str HF.out, HB.out⟩
                      · have hne := nonempty_of hz
                        have HF := hideB2 (HCL2.out.trans (if_neg hz))
                        clear hz
                        generalize tailB K = y at *
                        go_wp2
                        go_ret
                        exact ⟨ret_str HF.out, HB.out⟩
      · have e2 : ((s[0].toNat : Int) != 47) = true := by
          rw [hat, bne_iff_ne]
          intro hh
          exact h47 (UInt8.toNat_inj.1 (by have : (at8 s 0).toNat = 47 := by omega
                                           rw [this]; rfl))
        rw [clnB_no (pthQ_no1 (by unfold slash1; rw [beq_eq_false_iff_ne.2 h47, Bool.and_false]))]
        clear hat h47
        go_enter Tryz.func22, Tryz.ntmps22
        go_wp2
        go_ret
        exact ⟨rfl, Below.refl _ _⟩
    · have e1 : (200 : Int) < (s.size : Int) := by omega
      rw [clnB_no (pthQ_no2 (by cases ht : targQ s with | false => rfl | true => have := (targQ_iff.1 ht).2.1; omega))]
      go_enter Tryz.func22, Tryz.ntmps22
      go_wp2
      go_ret
      exact ⟨rfl, Below.refl _ _⟩
end Go.Proofs.YtmhohponikolfaaGreatDoor
namespace Go.Proofs
open Go.Shelf
def Tryz.lays219_ren : Go.Shelf.Ren := ⟨fun | 219 => 125 | 217 => 150 | 225 => 151 | 224 => 152 | 267 => 153 | 266 => 179 | 314 => 180 | n => n, fun | 9 => 9 | 3 => 3 | 4 => 4 | 5 => 5 | 46 => 109 | 146 => 147 | 51 => 144 | n => n, fun | 1 => 1 | n => n⟩
theorem Tryz.lays219 : Go.Proofs.Lays.n219 Tryz.prog Tryz.lays219_ren := {
  mixed := by kernel_rfl
  f217 := Tryz.func150.trans (congrArg some (by kernel_rfl))
  f219 := Tryz.func125.trans (congrArg some (by kernel_rfl))
  f224 := Tryz.func152.trans (congrArg some (by kernel_rfl))
  f225 := Tryz.func151.trans (congrArg some (by kernel_rfl))
  f266 := Tryz.func179.trans (congrArg some (by kernel_rfl))
  f267 := Tryz.func153.trans (congrArg some (by kernel_rfl))
  f314 := Tryz.func180.trans (congrArg some (by kernel_rfl))
  t3 := Tryz.underlying3
  a3 := Tryz.isAgg3
  z3 := Tryz.sizeOf3
  v3 := Tryz.zeroValue3
  t4 := Tryz.underlying4
  a4 := Tryz.isAgg4
  z4 := Tryz.sizeOf4
  v4 := Tryz.zeroValue4
  t5 := Tryz.underlying5
  a5 := Tryz.isAgg5
  z5 := Tryz.sizeOf5
  v5 := Tryz.zeroValue5
  t9 := Tryz.underlying9
  a9 := Tryz.isAgg9
  z9 := Tryz.sizeOf9
  v9 := Tryz.zeroValue9
  t46 := Tryz.underlying109
  a46 := Tryz.isAgg109
  z46 := Tryz.sizeOf109
  v46 := Tryz.zeroValue109
  t51 := Tryz.underlying144
  a51 := Tryz.isAgg144
  z51 := Tryz.sizeOf144
  v51 := Tryz.zeroValue144
  t146 := Tryz.underlying147
  a146 := Tryz.isAgg147
  z146 := Tryz.sizeOf147
  v146 := Tryz.zeroValue147
  g1 := by kernel_rfl }
end Go.Proofs
namespace Go.Proofs.YtmhohponikolfaaGreatDoor
set_option linter.unusedVariables false
set_option linter.unusedSimpArgs false
open Go.RowKit
/-- A text up to the first byte c, or whole. -/
def uptS (c : UInt8) (s : ByteArray) : ByteArray := if idxS c s < 0 then s else s.extract 0 (idxS c s).toNat
theorem uptS_none {c : UInt8} {s : ByteArray} (h : idxS c s = -1) : uptS c s = s := by unfold uptS; rw [h]; rfl
theorem uptS_some {c : UInt8} {s : ByteArray} {i : Nat} (h : idxS c s = (i : Int)) : uptS c s = s.extract 0 i := by
  unfold uptS; rw [h, if_neg (by omega), Int.toNat_natCast]
set_option maxHeartbeats 1000000 in
theorem l6uptoS_any (s : ByteArray) (c : UInt8) (w : World) (hs : s.size ≤ maxLen) :
    Calls Tryz.prog 60 #[.string s, .int .u8 (c.toNat : Int)] w fun e w' => e = .returned (.string (uptS c s)) ∧ w' = w := by
  unfold maxLen at hs
  generalize hR : uptS c s = R
  have HR := hideB2 hR
  clear hR
  go_enter Tryz.func60, Tryz.ntmps60
  go_wp2
  go_loop [5] (fun i => ∃ k : Nat, k ≤ s.size ∧ i = .int .i64 k ∧ ∀ j, j < k → at8 s j ≠ c) (fun i => s.size - (intOf i).toNat)
  case atStart => exact ⟨0, Nat.zero_le _, rfl, fun j hj => by omega⟩
  case round =>
    obtain ⟨k, hk, rfl, hall⟩ := hrel
    have HA := hideB2 hall
    clear hall
    by_cases hlt : k < s.size
    · have hat : s[k] = at8 s k := at8_eq s k hlt
      have hcc : ((s[k].toNat : Int) == (c.toNat : Int)) = (at8 s k == c) := by rw [hat]; exact u8_beq _ _
      clear hat
      cases hq : (at8 s k == c)
      · rw [hq] at hcc
        have HQ := hideB2 (show at8 s k ≠ c from beq_eq_false_iff_ne.1 hq)
        clear hq
        go_wp2
        go_round
        case rel => exact ⟨k + 1, by omega, by go_num, all_succ HA.out HQ.out⟩
        case measure => simp [intOf]; omega
      · rw [hq] at hcc
        have HF := hideB2 (show R = s.extract 0 k by rw [← HR.out]; exact uptS_some (idxS_of hlt (beq_iff_eq.1 hq) HA.out))
        clear hq
        have c1 : (k : Int) ≤ (s.size : Int) := by omega
        go_wp2
        go_ret
        exact ⟨ret_str HF.out, rfl⟩
    · have HF := hideB2 (show R = s by rw [← HR.out]; exact uptS_none (idxS_miss (fun j hj => HA.out j (by omega))))
      go_wp2
      go_ret
      exact ⟨ret_str HF.out, rfl⟩
/-- What stands behind the first byte c, and is there one? -/
def bhS (c : UInt8) (s : ByteArray) : ByteArray := if idxS c s < 0 then ⟨#[]⟩ else s.extract ((idxS c s).toNat + 1) s.size
def hasS (c : UInt8) (s : ByteArray) : Bool := decide (0 ≤ idxS c s)
theorem cut_none {c : UInt8} {s : ByteArray} (h : idxS c s = -1) : uptS c s = s ∧ bhS c s = ⟨#[]⟩ ∧ hasS c s = false := by
  refine ⟨uptS_none h, ?_, ?_⟩
  · unfold bhS; rw [h]; rfl
  · unfold hasS; rw [h]; rfl
theorem cut_some {c : UInt8} {s : ByteArray} {i : Nat} (h : idxS c s = (i : Int)) : uptS c s = s.extract 0 i ∧ bhS c s = s.extract (i + 1) s.size ∧ hasS c s = true := by
  refine ⟨uptS_some h, ?_, ?_⟩
  · unfold bhS; rw [h, if_neg (by omega), Int.toNat_natCast]
  · unfold hasS; rw [h, decide_eq_true (by omega)]
theorem uptS_size (c : UInt8) (s : ByteArray) : (uptS c s).size ≤ s.size := by
  rcases idxS_cases c s with h | ⟨i, h, hi⟩
  · rw [uptS_none h]; exact Nat.le_refl _
  · rw [uptS_some h, ByteArray.size_extract]; omega
theorem bhS_size (c : UInt8) (s : ByteArray) : (bhS c s).size ≤ s.size := by
  rcases idxS_cases c s with h | ⟨i, h, hi⟩
  · rw [(cut_none h).2.1]; show (0 : Nat) ≤ _; omega
  · rw [(cut_some h).2.1, ByteArray.size_extract]; omega
theorem cut_len (c : UInt8) (s : ByteArray) : hasS c s = decide ((uptS c s).size < s.size) ∧ bhS c s = if (uptS c s).size < s.size then s.extract ((uptS c s).size + 1) s.size else ⟨#[]⟩ := by
  rcases idxS_cases c s with h | ⟨i, h, hi⟩
  · obtain ⟨a1, a2, a3⟩ := cut_none h
    rw [a1, a2, a3, decide_eq_false (Nat.lt_irrefl _), if_neg (Nat.lt_irrefl _)]
    exact ⟨rfl, rfl⟩
  · obtain ⟨a1, a2, a3⟩ := cut_some h
    have e : (s.extract 0 i).size = i := by rw [ByteArray.size_extract]; omega
    rw [a1, a2, a3, e, decide_eq_true hi, if_pos hi]
    exact ⟨rfl, rfl⟩
set_option maxHeartbeats 1000000 in
theorem CutS0_any (s : ByteArray) (c : UInt8) (w : World) (hs : s.size ≤ maxLen) :
    Calls Tryz.prog 118 #[.string s, .string ⟨#[c]⟩] w fun e w' => e = .returned (.tuple #[.string (uptS c s), .string (bhS c s), .bool (hasS c s)]) ∧ Below w.heap.size w w' := by
  unfold maxLen at hs
  have HI := hideB2 (fun W => Any.stringslite_Index_one Tryz.lays219 s c W)
  have hd1 : (⟨#[c]⟩ : ByteArray).size = 1 := rfl
  rcases idxS_cases c s with h | ⟨i, h, hi⟩
  · obtain ⟨a1, a2, a3⟩ := cut_none h
    rw [a1, a2, a3]
    rw [show Lib.indexByte s.data.toList c = -1 from h] at HI
    generalize (⟨#[c]⟩ : ByteArray) = D at *
    clear a1 a2 a3 h
    go_enter Tryz.func118, Tryz.ntmps118
    go_wp2_with (go_at_call 125; refine (HI.out _).mono ?_; rintro e w' ⟨rfl, rfl⟩)
    go_ret3
    exact ⟨rfl, Below.refl _ _⟩
  · obtain ⟨a1, a2, a3⟩ := cut_some h
    rw [a1, a2, a3]
    rw [show Lib.indexByte s.data.toList c = (i : Int) from h] at HI
    generalize (⟨#[c]⟩ : ByteArray) = D at *
    have e1 : IntKind.i64.wrap ((i : Int) + 1) = (i : Int) + 1 := by rw [IntKind.wrap_i64]; omega
    have c0 : (0 : Int) ≤ (i : Int) := by omega
    have c1 : (i : Int) ≤ (s.size : Int) := by omega
    have c2 : (0 : Int) ≤ (i : Int) + 1 := by omega
    have c3 : (i : Int) + 1 ≤ (s.size : Int) := by omega
    have hd2 : (D.size : Int) = 1 := by omega
    clear a1 a2 a3 h
    go_enter Tryz.func118, Tryz.ntmps118
    go_wp2_with (go_at_call 125; refine (HI.out _).mono ?_; rintro e w' ⟨rfl, rfl⟩)
    go_region
    go_wp2
    go_ret3
    exact ⟨rfl, (Below.refl _ _).drew⟩
set_option maxHeartbeats 1000000 in
theorem CutS_any (s : ByteArray) (c : UInt8) (w : World) (hs : s.size ≤ maxLen) :
    Calls Tryz.prog 77 #[.string s, .string ⟨#[c]⟩] w fun e w' => e = .returned (.tuple #[.string (uptS c s), .string (bhS c s), .bool (hasS c s)]) ∧ Below w.heap.size w w' := by
  have HC := hideB2 (fun W => CutS0_any s c W hs)
  generalize uptS c s = x at *
  generalize bhS c s = y at *
  generalize hasS c s = z at *
  generalize (⟨#[c]⟩ : ByteArray) = D at *
  go_enter Tryz.func77, Tryz.ntmps77
  go_wp2_with (go_at_call 118; refine (HC.out _).mono ?_; rintro e w' ⟨rfl, hb⟩)
  go_ret3
  exact ⟨rfl, hb⟩
end Go.Proofs.YtmhohponikolfaaGreatDoor
namespace Go.Proofs
open Go.Shelf
def Tryz.lays110_ren : Go.Shelf.Ren := ⟨fun | 110 => 128 | 109 => 154 | n => n, fun | 31 => 26 | 9 => 9 | 4 => 4 | 3 => 3 | 0 => 0 | n => n, fun | n => n⟩
theorem Tryz.lays110 : Go.Proofs.Lays.n110 Tryz.prog Tryz.lays110_ren := {
  mixed := by kernel_rfl
  f109 := Tryz.func154.trans (congrArg some (by kernel_rfl))
  f110 := Tryz.func128.trans (congrArg some (by kernel_rfl))
  t0 := Tryz.underlying0
  a0 := Tryz.isAgg0
  z0 := Tryz.sizeOf0
  v0 := Tryz.zeroValue0
  t3 := Tryz.underlying3
  a3 := Tryz.isAgg3
  z3 := Tryz.sizeOf3
  v3 := Tryz.zeroValue3
  t4 := Tryz.underlying4
  a4 := Tryz.isAgg4
  z4 := Tryz.sizeOf4
  v4 := Tryz.zeroValue4
  t9 := Tryz.underlying9
  a9 := Tryz.isAgg9
  z9 := Tryz.sizeOf9
  v9 := Tryz.zeroValue9
  t31 := Tryz.underlying26
  a31 := Tryz.isAgg26
  z31 := Tryz.sizeOf26
  v31 := Tryz.zeroValue26 }
def Tryz.laysRev_ren : Go.Shelf.Ren := ⟨fun | 17 => 123 | n => n, fun | 24 => 26 | 9 => 9 | 3 => 3 | 4 => 4 | 0 => 0 | n => n, fun | n => n⟩
theorem Tryz.laysRev : Go.Proofs.Lays2.n17 Tryz.prog Tryz.laysRev_ren := {
  mixed := by kernel_rfl
  f17 := Tryz.func123.trans (congrArg some (by kernel_rfl))
  t0 := Tryz.underlying0
  a0 := Tryz.isAgg0
  z0 := Tryz.sizeOf0
  v0 := Tryz.zeroValue0
  t3 := Tryz.underlying3
  a3 := Tryz.isAgg3
  z3 := Tryz.sizeOf3
  v3 := Tryz.zeroValue3
  t4 := Tryz.underlying4
  a4 := Tryz.isAgg4
  z4 := Tryz.sizeOf4
  v4 := Tryz.zeroValue4
  t9 := Tryz.underlying9
  a9 := Tryz.isAgg9
  z9 := Tryz.sizeOf9
  v9 := Tryz.zeroValue9
  t24 := Tryz.underlying26
  a24 := Tryz.isAgg26
  z24 := Tryz.sizeOf26
  v24 := Tryz.zeroValue26 }
def Tryz.lays144_ren : Go.Shelf.Ren := ⟨fun | 144 => 42 | 143 => 87 | 219 => 125 | 217 => 150 | 225 => 151 | 224 => 152 | 267 => 153 | 266 => 179 | 314 => 180 | n => n, fun | 9 => 9 | 4 => 4 | 3 => 3 | 5 => 5 | 46 => 109 | 146 => 147 | 51 => 144 | n => n, fun | 1 => 1 | n => n⟩
theorem Tryz.lays144 : Go.Proofs.Lays.n144 Tryz.prog Tryz.lays144_ren := {
  mixed := by kernel_rfl
  f143 := Tryz.func87.trans (congrArg some (by kernel_rfl))
  f144 := Tryz.func42.trans (congrArg some (by kernel_rfl))
  f217 := Tryz.func150.trans (congrArg some (by kernel_rfl))
  f219 := Tryz.func125.trans (congrArg some (by kernel_rfl))
  f224 := Tryz.func152.trans (congrArg some (by kernel_rfl))
  f225 := Tryz.func151.trans (congrArg some (by kernel_rfl))
  f266 := Tryz.func179.trans (congrArg some (by kernel_rfl))
  f267 := Tryz.func153.trans (congrArg some (by kernel_rfl))
  f314 := Tryz.func180.trans (congrArg some (by kernel_rfl))
  t3 := Tryz.underlying3
  a3 := Tryz.isAgg3
  z3 := Tryz.sizeOf3
  v3 := Tryz.zeroValue3
  t4 := Tryz.underlying4
  a4 := Tryz.isAgg4
  z4 := Tryz.sizeOf4
  v4 := Tryz.zeroValue4
  t5 := Tryz.underlying5
  a5 := Tryz.isAgg5
  z5 := Tryz.sizeOf5
  v5 := Tryz.zeroValue5
  t9 := Tryz.underlying9
  a9 := Tryz.isAgg9
  z9 := Tryz.sizeOf9
  v9 := Tryz.zeroValue9
  t46 := Tryz.underlying109
  a46 := Tryz.isAgg109
  z46 := Tryz.sizeOf109
  v46 := Tryz.zeroValue109
  t51 := Tryz.underlying144
  a51 := Tryz.isAgg144
  z51 := Tryz.sizeOf144
  v51 := Tryz.zeroValue144
  t146 := Tryz.underlying147
  a146 := Tryz.isAgg147
  z146 := Tryz.sizeOf147
  v146 := Tryz.zeroValue147
  g1 := by kernel_rfl }
end Go.Proofs
namespace Go.Proofs.YtmhohponikolfaaGreatDoor
set_option linter.unusedVariables false
set_option linter.unusedSimpArgs false
open Go.RowKit
set_option maxHeartbeats 1000000 in
theorem hostSign_any (r : Int) (w : World) :
    Calls Tryz.prog 127 #[.int .i32 r] w fun e w' => e = .returned (.bool (hstP r)) ∧ w' = w := by
  unfold hstP pcP digP
  by_cases a1 : 97 ≤ r
  · by_cases a2 : r ≤ 122
    · go_enter Tryz.func127, Tryz.ntmps127
      go_wp2
      go_ret
      exact ⟨ret_bool (by first | (simp [a1, a2]; done) | (simp [a1, a2] <;> omega)), rfl⟩
    · have b1 : 48 ≤ r := by omega
      have b2 : ¬ r ≤ 57 := by omega
      have e1 : (r == 45) = false := by rw [beq_eq_false_iff_ne]; omega
      have e2 : (r == 46) = false := by rw [beq_eq_false_iff_ne]; omega
      go_enter Tryz.func127, Tryz.ntmps127
      go_wp2
      go_ret
      exact ⟨ret_bool (by first | (simp [a1, a2, b1, b2, e1, e2]; done) | (simp [a1, a2, b1, b2, e1, e2] <;> omega)), rfl⟩
  · by_cases b1 : 48 ≤ r
    · by_cases b2 : r ≤ 57
      · go_enter Tryz.func127, Tryz.ntmps127
        go_wp2
        go_ret
        exact ⟨ret_bool (by first | (simp [b1, b2]; done) | (simp [b1, b2] <;> omega)), rfl⟩
      · have e1 : (r == 45) = false := by rw [beq_eq_false_iff_ne]; omega
        have e2 : (r == 46) = false := by rw [beq_eq_false_iff_ne]; omega
        go_enter Tryz.func127, Tryz.ntmps127
        go_wp2
        go_ret
        exact ⟨ret_bool (by first | (simp [a1, b1, b2, e1, e2]; done) | (simp [a1, b1, b2, e1, e2] <;> omega)), rfl⟩
    · cases e1 : (r == 45)
      · go_enter Tryz.func127, Tryz.ntmps127
        go_wp2
        go_ret
        exact ⟨ret_bool (by first | (simp [a1, b1, e1]; done) | (simp [a1, b1, e1] <;> omega)), rfl⟩
      · go_enter Tryz.func127, Tryz.ntmps127
        go_wp2
        go_ret
        exact ⟨ret_bool (by first | (simp [e1]; done) | (simp [e1] <;> omega)), rfl⟩
def emptyS (l : List ByteArray) : Bool := l.any fun x => eqB x ⟨#[]⟩
theorem containsS_empty (l : List ByteArray) : Lib.containsS l ⟨#[]⟩ = emptyS l := by
  rw [Bool.eq_iff_iff, Lib.containsS_iff]
  unfold emptyS
  rw [List.any_eq_true]
  constructor
  · intro h; exact ⟨_, h, eqB_self _⟩
  · rintro ⟨x, hx, he⟩; rw [← eqB_iff.1 he]; exact hx
theorem ContainsE_any (w0 w : World) (v : Value) (l : List ByteArray) (hb : BufS w0 w v l) (hl : l.length ≤ 1048577) (hne : l ≠ []) :
    Calls Tryz.prog 128 #[v, .string ⟨#[]⟩] w fun e w' => e = .returned (.bool (emptyS l)) ∧ w' = w := by
  obtain ⟨g, cap, rfl, _, _, hc⟩ := hb.cells (List.length_pos_iff.2 hne)
  have h := Any.slices_Contains_string Tryz.lays110 g 0 l.length cap l ⟨#[]⟩ w (Nat.le_refl _) (by omega) (fun j hj => by rw [Nat.zero_add]; exact hc j hj)
  rw [List.take_of_length_le (Nat.le_refl _), containsS_empty] at h
  exact h
set_option maxRecDepth 100000 in
set_option maxHeartbeats 4000000 in
theorem hostOk_any (s : ByteArray) (w : World) (hs : s.size ≤ maxLen) :
    Calls Tryz.prog 91 #[.string s] w fun e w' => e = .returned (.bool (hostQ s)) ∧ Below w.heap.size w w' := by
  have hs' := hs
  unfold maxLen at hs'
  by_cases h60 : (60 : Int) < (s.size : Int)
  · rw [show hostQ s = false by unfold hostQ; rw [decide_eq_false (by omega)]; rfl]
    go_enter Tryz.func91, Tryz.ntmps91
    go_wp2
    go_ret
    exact ⟨rfl, Below.refl _ _⟩
  · have HSP := hideB2 (fun W => SplitS_any s 46 W (by omega))
    have hls := (splS_le 46 s).1
    have hne := splS_ne 46 s
    have HC := hideB2 (fun w0 w1 v (h : BufS w0 w1 v (splS 46 s)) => ContainsE_any w0 w1 v _ h (by omega) hne)
    generalize hR : hostQ s = R
    have HR := hideB2 (show R = (allB hst8 s && !emptyS (splS 46 s)) by rw [← hR]; unfold hostQ; rw [decide_eq_true (by omega), Bool.true_and]; rfl)
    clear hR hls hne
    generalize splS 46 s = L at *
    have HI := hideB2 (fun k => (below_a1 w (.stringIter s k) : Below w.heap.size w (w.iter s k)))
    go_enter Tryz.func91, Tryz.ntmps91
    go_wp2
    go_loopg [10, 11] s.size (fun g _ _ wx => ∃ i : Nat, i + g = s.size ∧ wx = w.iter s i ∧ ∀ j, j < i → hst8 (at8 s j) = true)
    case atStart => exact ⟨0, by omega, rfl, fun j hj => by omega⟩
    case round =>
      obtain ⟨i, hig, rfl, hall⟩ := hrel
      have HA := hideB2 hall
      clear hall
      cases gk with
      | zero =>
        obtain rfl : i = s.size := by omega
        have hnx := run_next_end (P := Tryz.prog) w s s.size
        have HF := hideB2 (show R = !emptyS L by rw [HR.out, allB_yes (fun j hj => HA.out j hj), Bool.true_and])
        clear HR
        generalize emptyS L = q at *
        go_wp2_with (first | (go_at_call 53; refine (HSP.out _).mono ?_; rintro e w5 ⟨v5, rfl, hb5⟩) | (go_at_call 128; refine (HC.out _ _ _ hb5).mono ?_; rintro e w6 ⟨rfl, rfl⟩))
        go_ret
        exact ⟨ret_bool HF.out, below_then (HI.out _) hb5.below⟩
      | succ g =>
        have hi : i < s.size := by omega
        have hat : s[i] = at8 s i := at8_eq s i hi
        by_cases ha : (s[i]).toNat < 128
        · have hnx := fun ty => run_next_ascii (P := Tryz.prog) w s i ty hi ha
          have HS := hideB2 (fun W => hostSign_any (s[i].toNat : Int) W)
          cases hq : hst8 (at8 s i)
          · have hq2 : hstP (s[i].toNat : Int) = false := by rw [hat]; exact hq
            rw [hq2] at HS
            have HF := hideB2 (show R = false by rw [HR.out, allB_no hi hq]; rfl)
            clear hq hq2 hat
            go_wp2_with (go_at_call 127; refine (HS.out _).mono ?_; rintro e w' ⟨rfl, rfl⟩)
            go_ret
            exact ⟨ret_bool HF.out, HI.out _⟩
          · have hq2 : hstP (s[i].toNat : Int) = true := by rw [hat]; exact hq
            rw [hq2] at HS
            have HQ := hideB2 hq
            clear hq hq2 hat
            go_wp2_with (go_at_call 127; refine (HS.out _).mono ?_; rintro e w' ⟨rfl, rfl⟩)
            go_roundg g
            case measure => omega
            case rel => exact ⟨i + 1, by omega, rfl, all_succ HA.out HQ.out⟩
        · have hnx := fun ty => run_next_any (P := Tryz.prog) w s i ty hi
          obtain ⟨d1', d2'⟩ := decode_high s i hi (by omega)
          have HF := hideB2 (show R = false by
            rw [HR.out, allB_no hi (p := hst8) ?_]; rfl
            rw [← hat]
            unfold hst8 hstP pcP digP
            rw [decide_eq_false (show ¬ ((s[i].toNat : Int) ≤ 122) by omega), decide_eq_false (show ¬ ((s[i].toNat : Int) ≤ 57) by omega), beq_eq_false_iff_ne.2 (show (s[i].toNat : Int) ≠ 45 by omega), beq_eq_false_iff_ne.2 (show (s[i].toNat : Int) ≠ 46 by omega)]
            simp)
          generalize hdc : Utf8.decode s i = dc at *
          obtain ⟨rn, wd⟩ := dc
          simp only at d1' hnx
          have HS := hideB2 (fun W => hostSign_any (rn : Int) W)
          have hz : hstP (rn : Int) = false := by
            unfold hstP pcP digP
            rw [decide_eq_false (show ¬ ((rn : Int) ≤ 122) by omega), decide_eq_false (show ¬ ((rn : Int) ≤ 57) by omega), beq_eq_false_iff_ne.2 (show (rn : Int) ≠ 45 by omega), beq_eq_false_iff_ne.2 (show (rn : Int) ≠ 46 by omega)]
            simp
          rw [hz] at HS
          clear hz hat
          go_wp2_with (go_at_call 127; refine (HS.out _).mono ?_; rintro e w' ⟨rfl, rfl⟩)
          go_ret
          exact ⟨ret_bool HF.out, HI.out _⟩
end Go.Proofs.YtmhohponikolfaaGreatDoor
