/-
  FnLines: lines that are written one behind another are taken back one by one. No condition.
-/
import Derived.Test.YtpjjgdhcidngfabML
import Derived.Test.YtpjjgdhcidngfabAS
import Derived.Test.YtpjjgdhcidngfabWR
import Derived.Test.YtpjjgdhcidngfabW4
import Derived.Test.YtpjjgdhcidngfabW9
import Derived.Test.YtpjjgdhcidngfabW11b
import Derived.Test.YtpjjgdhcidngfabW13
import Derived.Test.YtpjjgdhcidngfabWW
namespace Go.Proofs.Ytpjjgdhcidngfab
set_option linter.unusedVariables false
set_option linter.unusedSimpArgs false
open Go.ChangeShapes Go.WideShapes Go.ChangeAt Go.RowKit
open Go.ChangeMaps (open_string shut_string)
theorem line_step {s x : ByteArray} {L : List ByteArray} (h : s.data.toList = lineL L) (hc : ∀ y ∈ L, cleanB y) (hx : cleanB x) : ((s ++ x) ++ ⟨#[13, 10]⟩).data.toList = lineL (L ++ [x]) ∧ ∀ y ∈ L ++ [x], cleanB y := by
  refine ⟨?_, ?_⟩
  · rw [Go.Joins.data_append, Go.Joins.data_append, lineL_snoc, h, List.append_assoc]
  · intro y hy
    rcases List.mem_append.1 hy with h1 | h1
    · exact hc y h1
    · simp only [List.mem_singleton] at h1
      rw [h1]; exact hx
theorem lineL_cons (x : ByteArray) (L : List ByteArray) : lineL (x :: L) = (x.data.toList ++ [13, 10]) ++ lineL L := by simp [lineL]
theorem lineL_app (A B : List ByteArray) : lineL (A ++ B) = lineL A ++ lineL B := by simp [lineL]
theorem line_at {T : ByteArray} {L : List ByteArray} {j : Nat} (hT : T.data.toList = lineL L ++ [101, 110, 100]) (hc : ∀ x ∈ L, cleanB x) (hj : j < L.length) :
    tlV T (lineL (L.take j)).length = .tuple #[.string (L.getD j ⟨#[]⟩), .agg #[.string T, .int .i64 ((lineL (L.take (j + 1))).length : Int)], .int .i64 0] ∧ (lineL (L.take j)).length ≤ T.size := by
  have hx : L.getD j ⟨#[]⟩ = L[j] := by simp [List.getD, List.getElem?_eq_getElem hj]
  have hs : lineL L = lineL (L.take j) ++ ((L[j].data.toList ++ [13, 10]) ++ lineL (L.drop (j + 1))) := by
    rw [← lineL_cons, ← lineL_app, ← List.drop_eq_getElem_cons hj, List.take_append_drop]
  have ht : lineL (L.take (j + 1)) = lineL (L.take j) ++ (L[j].data.toList ++ [13, 10]) := by
    rw [List.take_succ_eq_append_getElem hj, lineL_snoc]
  have h := tl_line T (lineL (L.take j)) L[j].data.toList (lineL (L.drop (j + 1)) ++ [101, 110, 100]) (by rw [hT, hs]; simp only [List.append_assoc]) (hc _ (List.getElem_mem hj))
  refine ⟨?_, ?_⟩
  · rw [h, hx, ht]
    congr 5
    simp; omega
  · rw [← len_data, hT, hs]; simp
theorem Two.set {W : World} {b : Nat} {x y : Value} (h : Two W b x y) (x' y' : Value) : Two ((W.setCell ⟨b, 0, none⟩ x').setCell ⟨b, 1, none⟩ y') b x' y' := by
  refine ⟨?_, ?_, ?_, ?_, ?_⟩
  · rw [World.cell?_setCell_other _ _ _ _ (by simp)]; exact World.cell?_setCell_same _ _ _ h.c0
  · exact World.cell?_setCell_same _ _ _ ((World.cell?_setCell_other _ _ _ _ (by simp)).trans h.c1)
  · rw [World.frozen?_setCell, World.frozen?_setCell]; exact h.f0
  · rw [World.frozen?_setCell, World.frozen?_setCell]; exact h.f1
  · simpa [World.setCell] using h.lt
set_option maxHeartbeats 2000000 in
theorem fnLines_walk (a0 : Option Addr) (len0 cap0 : Nat) (z0 : List Int) (w : World) (w0 : IsRow .u8 w a0 len0 cap0 z0) :
    Calls Try.prog 3 #[.slice a0 len0 cap0] w fun e w' => e = .returned (.bool true) ∧ Below w.heap.size w w' := by
  obtain ⟨hc, hmax⟩ := crow_of w0
  clear w0
  unfold maxLen at hmax
  go_enter Try.func3, Try.ntmps3
  go_wp2_with fail
  go_loopw [3, 4, 5] (fun sv lv i wr => ∃ (k : Nat) (s : ByteArray) (L : List ByteArray), k ≤ len0 ∧ k ≤ 12 ∧ i = .int .i64 (k : Int) ∧ sv = .string s ∧ L.length = k ∧ s.data.toList = lineL L ∧ s.size ≤ 17 * k ∧ (∀ x ∈ L, cleanB x) ∧ BufS w wr lv L) (fun _ _ i _ => len0 - (intOf i).toNat)
  case atStart => exact ⟨0, ⟨#[]⟩, [], Nat.zero_le _, by omega, rfl, rfl, rfl, rfl, by decide, (fun x hx => by cases hx), BufS.start w⟩
  case round =>
    obtain ⟨k, s, L, hk, hk12, rfl, rfl, hL, hsL, hsz, hcl, hbuf⟩ := hrel
    have HL : Hid (L.length = k ∧ s.data.toList = lineL L ∧ ∀ x ∈ L, cleanB x) := ⟨hL, hsL, hcl⟩
    have hLl : L.length ≤ 12 := by omega
    clear hsL hcl
    by_cases hlt : k < len0 ∧ k < 12
    · obtain ⟨hl1, hl2⟩ := hlt
      have hcode := hc.later hbuf.below
      clear hc hL
      rcases hcode with hl0 | ⟨b, off, rfl, hbp, hcc⟩
      · omega
      · obtain ⟨z, hz, hcz⟩ := hcc k hl1
        have hI : (k : Int) < (len0 : Int) := by omega
        have hI9 : (k : Int) < 12 := by omega
        clear hcc
        go_wp2_with fail
        refine (sDecText_nat z _ (by omega)).mono ?_
        rintro e w1 ⟨rfl, hb1⟩
        have hcz1 : w1.cell? ⟨b, off + k, none⟩ = some (.int .u8 (z : Int)) := (hb1.cell (p := ⟨b, off + k, none⟩) hbp).trans hcz
        have hbuf1 := hbuf.later hb1
        have hx := line_step HL.out.2.1 HL.out.2.2 (dec_clean z)
        have hy := line_step HL.out.2.1 HL.out.2.2 none_clean
        have hxz : (decB z).size ≤ 15 := decDigits_len z (by omega)
        clear hb1 hbuf hcz
        generalize decB z = x at *
        have hxs : ((s ++ x) ++ ⟨#[13, 10]⟩).size ≤ 17 * (k + 1) := by
          have e2 : (ByteArray.mk #[13, 10]).size = 2 := rfl
          rw [ByteArray.size_append, ByteArray.size_append]; omega
        have hys : ((s ++ ⟨#[]⟩) ++ ⟨#[13, 10]⟩).size ≤ 17 * (k + 1) := by
          have e1 : (ByteArray.mk #[]).size = 0 := rfl
          have e2 : (ByteArray.mk #[13, 10]).size = 2 := rfl
          rw [ByteArray.size_append, ByteArray.size_append]; omega
        have HX : Hid ((((s ++ x) ++ ⟨#[13, 10]⟩).data.toList = lineL (L ++ [x]) ∧ ∀ y ∈ L ++ [x], cleanB y) ∧ ((s ++ x) ++ ⟨#[13, 10]⟩).size ≤ 17 * (k + 1)) := ⟨hx, hxs⟩
        have HY : Hid ((((s ++ ⟨#[]⟩) ++ ⟨#[13, 10]⟩).data.toList = lineL (L ++ [⟨#[]⟩]) ∧ ∀ y ∈ L ++ [⟨#[]⟩], cleanB y) ∧ ((s ++ ⟨#[]⟩) ++ ⟨#[13, 10]⟩).size ≤ 17 * (k + 1)) := ⟨hy, hys⟩
        clear hx hy hxs hys
        cases h5 : ((z : Int) % 5 == 0)
        · go_wp2_with (at_builtin; refine wp_sapp rfl _ _ rfl _ _ rfl hbuf1 x rfl (by omega) ?_; intro v2 W2 hbuf2)
          go_round
          case rel => exact ⟨k + 1, (s ++ x) ++ ⟨#[13, 10]⟩, L ++ [x], by omega, by omega, by go_num, rfl, by have := HL.out.1; simp; omega, HX.out.1.1, HX.out.2, HX.out.1.2, hbuf2⟩
          case measure => simp [intOf] <;> omega
        · go_wp2_with (at_builtin; refine wp_sapp rfl _ _ rfl _ _ rfl hbuf1 ⟨#[]⟩ rfl (by omega) ?_; intro v2 W2 hbuf2)
          go_round
          case rel => exact ⟨k + 1, (s ++ ⟨#[]⟩) ++ ⟨#[13, 10]⟩, L ++ [⟨#[]⟩], by omega, by omega, by go_num, by simp, by have := HL.out.1; simp; omega, HY.out.1.1, HY.out.2, HY.out.1.2, hbuf2⟩
          case measure => simp [intOf] <;> omega
    · have hway : (¬ (k : Int) < (len0 : Int)) ∨ ((k : Int) < (len0 : Int) ∧ ¬ (k : Int) < 12) := by
        by_cases h : k < len0
        · right; exact ⟨by omega, by omega⟩
        · left; omega
      have hT : Hid ((s ++ ⟨#[101, 110, 100]⟩).data.toList = lineL L ++ [101, 110, 100]) := by
        show _ = _
        rw [Go.Joins.data_append, HL.out.2.1]
      have hTs : (s ++ ⟨#[101, 110, 100]⟩).size ≤ 300 := by
        have e2 : (ByteArray.mk #[101, 110, 100]).size = 3 := rfl
        rw [ByteArray.size_append]; omega
      have HC : Hid (∀ x ∈ L, cleanB x) := HL.out.2.2
      obtain ⟨av, cv, rfl, hrv⟩ := hbuf.rows
      have HW : Hid (Below w.heap.size w wr) := hbuf.below
      clear hlt HL hc hbuf hL hk
      generalize hTe : s ++ ⟨#[101, 110, 100]⟩ = T at *
      have mT : T.size ≤ maxLen := by unfold maxLen; omega
      rcases hway with h | ⟨h, h'⟩
      all_goals
        go_wp2_with fail
        obtain ⟨wB, hwB⟩ : ∃ x, x = wr := ⟨_, rfl⟩
        subst hwB
        go_loopw [8] (fun i w2 => ∃ j : Nat, j ≤ L.length ∧ i = .int .i64 (j : Int) ∧ Below wB.heap.size wB w2 ∧ Two w2 wB.heap.size (.string T) (.int .i64 ((lineL (L.take j)).length : Int))) (fun i _ => L.length - (intOf i).toNat)
        case atStart => exact ⟨0, Nat.zero_le _, rfl, (Below.refl _ _).alloc (Nat.le_refl _) _, Two.new _ _ _ _⟩
        case round =>
          obtain ⟨j, hj, rfl, hb2, h2⟩ := hrel
          have c0 := h2.c0
          have c1 := h2.c1
          have f0 := h2.f0
          have f1 := h2.f1
          by_cases hjl : j < L.length
          · have hI : (j : Int) < (L.length : Int) := by omega
            obtain ⟨g, hav, hcg⟩ := hrv.at (by omega)
            subst hav
            have cl2 := cell_later hb2 (hcg j hjl)
            obtain ⟨hlv, hpt⟩ := line_at hT.out HC.out hjl
            go_wp2_with fail
            refine (TakeLine_ok T _ _ mT hpt).mono ?_
            rintro e w3 ⟨rfl, hb3⟩
            rw [hlv]
            have h3 := Two.later hb3 h2
            have cl3 := cell_later hb3 cl2
            clear c0 c1 f0 f1 hlv hcg cl2 hpt hrv
            generalize L.getD j ⟨#[]⟩ = x at *
            have hnx := neT_self x
            have hnT := neT_self T
            generalize hp2 : ((lineL (L.take (j + 1))).length : Int) = p2 at *
            have HP : Hid (((lineL (L.take (j + 1))).length : Int) = p2) := hp2
            clear hp2
            have hA : Below w3.heap.size w3 (w3.alloc (.cells #[.string T, .int .i64 p2] 26)) := (Below.refl _ w3).alloc (Nat.le_refl _) _
            have h4 := Two.later hA h3
            have cl4 := cell_later hA cl3
            have d0 := h4.c0
            have d1 := h4.c1
            have k0 := h4.f0
            have k1 := h4.f1
            have H4 : Hid (Two (w3.alloc (.cells #[.string T, .int .i64 p2] 26)) wB.heap.size (.string T) (.int .i64 ((lineL (L.take j)).length : Int))) := h4
            have hb23 := hb2.trans (hb3.mono hb2.size)
            have HF : Hid (Below wB.heap.size wB (w3.alloc (.cells #[.string T, .int .i64 p2] 26))) := hb23.alloc hb23.size _
            clear hA h3 cl3 h2 h4 hb23
            go_wp2
            go_round
            case rel => exact ⟨j + 1, by omega, by go_num, (HF.out.setCell (p := ⟨_, 0, none⟩) (Nat.le_refl _) _).setCell (p := ⟨_, 1, none⟩) (Nat.le_refl _) _, by rw [HP.out]; exact H4.out.set _ _⟩
            case measure => simp [intOf] <;> omega
          · have hd : ¬ (j : Int) < (L.length : Int) := by omega
            obtain rfl : j = L.length := by omega
            rw [List.take_length] at h2 c1
            have hE := tl_end T (lineL L) hT.out
            unfold curZ at hE
            have hN := tn_end T (lineL L) hT.out
            have hle : (lineL L).length ≤ T.size := by
              have := hT.out
              rw [← len_data, this]; simp
            have hok : curOk T ((lineL L).length : Int) = true := curOk_iff.2 ⟨by omega, by omega⟩
            go_wp2_with fail
            refine (TakeLine_ok T _ _ mT hle).mono ?_
            rintro e w3 ⟨rfl, hb3⟩
            rw [hE]
            have h3 := Two.later hb3 h2
            have b3 := hb2.trans (hb3.mono hb2.size)
            clear c0 c1 f0 f1 h2 hb2 hb3 hE hrv
            have h4 := h3.alloc (.cells #[.string ⟨#[]⟩, .int .i64 0] 26)
            have b4 : Below wB.heap.size wB (w3.alloc (.cells #[.string ⟨#[]⟩, .int .i64 0] 26)) := b3.alloc b3.size _
            have d0 := h4.c0
            have d1 := h4.c1
            have d2 := h3.c0
            have d3 := h3.c1
            clear h3 b3
            go_wp2_with fail
            refine (TakeN_any T ((lineL L).length : Int) 3 _ mT (by omega)).mono ?_
            rintro e w5 ⟨rfl, hb5⟩
            rw [hN]
            have h5 := Two.later hb5 h4
            have b5 := b4.trans (hb5.mono b4.size)
            clear h4 b4 hb5 hN d0 d1 d2 d3
            have h6 := h5.alloc (.cells #[.string T, .int .i64 (((lineL L).length : Int) + 3)] 26)
            have b6 : Below wB.heap.size wB (w5.alloc (.cells #[.string T, .int .i64 (((lineL L).length : Int) + 3)] 26)) := b5.alloc b5.size _
            have d0 := h6.c0
            have d1 := h6.c1
            have d2 := h5.c0
            have d3 := h5.c1
            clear h5 b5 h6
            go_wp2_with fail
            refine (CurOk_any T ((lineL L).length : Int) _).mono ?_
            rintro e w7 ⟨rfl, hb7⟩
            rw [hok]
            have b7 := b6.trans (hb7.mono b6.size)
            clear b6 hb7 d0 d1 d2 d3
            go_wp2_with fail
            refine (words_any _).mono ?_
            rintro e w8 ⟨rfl, hb8⟩
            have b8 := b7.trans (hb8.mono b7.size)
            have HZ : Hid (Below w.heap.size w w8) := HW.out.trans (b8.mono HW.out.size)
            clear b7 hb8 b8
            go_wp2
            go_ret
            exact ⟨rfl, HZ.out⟩

set_option maxRecDepth 100000 in
theorem fnLines_lifted (os : Os) (started : os.Started) (H : Type) (enc : TypeId × Value → H) :
    ReturnsInHanded {} Try.checked os 3 .any (Rows.fnLinesSpec.pre6 enc Try.prog Try.f3 Rows.fnLinesRow.domain false) (Rows.fnLinesSpec.post enc Try.prog Try.f3 false true false false) := by
  refine returnsInHanded_of_change (C := Try.checked) Try.own started (by kernel_rfl) Try.func3
    (ChangeSpec.witness6 (enc := enc) (C := Try.checked) false ⟨#[], #[.slice none 0 0], []⟩ 8 (by kernel_rfl) (by kernel_rfl) (by kernel_rfl) (by kernel_rfl)) ?_
  intro W base args ds gs before hval0 hW hcnd _
  have hval : ∀ (j : Nat) t v, Try.f3.params[j]? = some t → args[j]? = some v → Value.okWide Try.prog W .any base t v := hval0
  have hW' := hW
  obtain ⟨p, q, hA0, hV, rfl, hfz, hnd⟩ := hW
  have hA : DataW.TrodAll enc Try.prog W 0 (fun _ => true) true Try.f3.params.toList args.toList ds p := hA0
  rw [Try.params3] at hA hval
  obtain ⟨v0, vs0, d0, ds0, p0, q0, hargs, rfl, rfl, h0, r0⟩ := trodAll_cons hA
  obtain ⟨rfl, rfl, rfl⟩ := trodAll_nil r0
  obtain rfl : args = #[v0] := by cases args; simp_all
  obtain ⟨rfl, rfl⟩ := trodVars_none hV
  obtain ⟨a0, len0, cap0, rfl⟩ := okWide_slice Try.underlying22 (hval 0 22 v0 rfl rfl)
  have k0 := h0
  have lt0 : ∀ x ∈ p0, x.block < W.heap.size := by obtain ⟨m, hm⟩ := k0; exact DataW.trod_lt m _ _ _ hm
  obtain ⟨z0, w0⟩ : ∃ zs, IsRow .u8 W a0 len0 cap0 zs := by
    obtain ⟨fuel, hf⟩ := h0
    rcases open_ints Try.underlying22 Try.underlying5 (by kernel_rfl) hf with ⟨hcs, _⟩ | ⟨x, l, c, zs, hcs, _, hl, hm, hz, _, hcell, hwz⟩
    · simp [Value.cells] at hcs
      obtain ⟨rfl, rfl, rfl⟩ := hcs
      exact ⟨[], .inl ⟨rfl, rfl, rfl, rfl⟩⟩
    · simp [Value.cells] at hcs
      obtain ⟨rfl, rfl, rfl⟩ := hcs
      exact ⟨zs, .inr ⟨_, rfl, hl, hm, by simpa using hz, hcell, hwz⟩⟩
  clear hA0 hval0
  refine (fnLines_walk a0 len0 cap0 z0 W w0).mono fun e W' ⟨he, bel⟩ => ?_
  subst he
  exact ⟨_, rfl, _, _, _, [], _, [], hW', trodAll_mk1 (shut_bool Try.underlying4 _), (trodAll_cons_mk (Below.trod Try.laidOut (by kernel_rfl) (of_decide_eq_true (by kernel_rfl)) k0 bel lt0) trodAll_mk0), rfl, bel.frame _, fun h => by cases h⟩

/-- THE STATEMENT -/
theorem fnLines_holds : Rows.FnLinesSaid :=
  OpenClaim.holds_of_wide 3 Try.f3 rfl rfl rfl rfl rfl rfl rfl ⟨rfl, rfl, rfl, rfl, rfl⟩ rfl rfl rfl rfl rfl (by kernel_rfl) Try.func3 (by kernel_rfl)
    (of_decide_eq_true (by kernel_rfl)) (by unfold Func.isWrapper; first | (rw [if_pos (by decide +kernel)]; kernel_rfl) | (rw [if_neg (by decide +kernel)]; exact ⟨rfl, rfl⟩))
    (fun os started H enc _ => fnLines_lifted os started H enc)
#print axioms fnLines_holds
end Go.Proofs.Ytpjjgdhcidngfab
