/-
  Chapter 5: HopNames and EndToEnd, the specification's side.
-/
import Derived.Test.YtbdggopdhnlbfaaGreatDoorF11
import Derived.Laws.OwnMore
namespace Go.Proofs.YtbdggopdhnlbfaaGreatDoor
set_option linter.unusedVariables false
set_option linter.unusedSimpArgs false
open Go.RowKit Go.Maps
theorem inNl_no {M : List ByteArray} {s : ByteArray} (h : ∀ j, j < M.length → eqB (txAt M j) s = false) : inNl M s = false := by
  cases hh : inNl M s with
  | false => rfl
  | true =>
    have := inNl_iff.1 hh
    obtain ⟨j, hj, he⟩ := List.mem_iff_getElem.1 this
    have h1 := h j hj
    rw [txAt_get hj, he, eqB_self] at h1
    cases h1
theorem inNl_yes {M : List ByteArray} {s : ByteArray} {j : Nat} (hj : j < M.length) (h : eqB (txAt M j) s = true) : inNl M s = true := by
  rw [inNl_iff, ← eqB_iff.1 h, txAt_get hj]; exact List.getElem_mem _
set_option maxHeartbeats 1000000 in
theorem l5in_any (v : Value) (M : List ByteArray) (s : ByteArray) (w : World) (hv : SlT w v M) (hl : M.length ≤ 1000000) :
    Calls Tryz.prog 37 #[v, .string s] w fun e w' => e = .returned (.bool (inNl M s)) ∧ Below w.heap.size w w' := by
  obtain ⟨a, c0, rfl⟩ := hv.form
  generalize hR : inNl M s = R
  have HR := hideB2 hR
  have HV := hideB2 hv
  clear hR hv
  generalize hm : M.length = m at *
  have HM := hideB2 hm
  clear hm
  go_enter Tryz.func37, Tryz.ntmps37
  go_wp2
  go_loopw [5] (fun i wr => ∃ k : Nat, k ≤ m ∧ i = .int .i64 k ∧ (∀ j, j < k → eqB (txAt M j) s = false) ∧ Below w.heap.size w wr) (fun i _ => m - (intOf i).toNat)
  case atStart => exact ⟨0, Nat.zero_le _, rfl, fun j hj => absurd hj (by omega), Below.refl _ _⟩
  case round =>
    obtain ⟨k, hk, rfl, hall, hb⟩ := hrel
    by_cases hlt : k < m
    · have hklt : k < M.length := by rw [HM.out]; exact hlt
      obtain ⟨b, rfl, hr⟩ := HV.out.row (by omega)
      have p0 := (hr.keep hb).cell k hklt
      have HALL := hideB2 hall
      have HBW := hideB2 hb
      have HY := hideB2 (fun h => inNl_yes (s := s) hklt h)
      clear hr hall hb hklt
      generalize hx : txAt M k = x at *
      have HX := hideB2 hx
      clear hx
      cases hc : eqB x s
      · have hc2 : (x.toList == s.toList) = false := hc
        have HC := hideB2 hc
        clear hc HY
        go_wp2
        refine ⟨⟨k + 1, by omega, by go_num, fun j hj => ?_, HBW.out⟩, by simp [intOf]; omega⟩
        by_cases e : j = k
        · subst e; rw [HX.out]; exact HC.out
        · exact HALL.out j (by omega)
      · have hc2 : (x.toList == s.toList) = true := hc
        have HF := hideB2 (HR.out.symm.trans (HY.out hc))
        clear hc HY
        go_wp2
        go_ret
        exact ⟨ret_bool HF.out, HBW.out⟩
    · obtain rfl : k = m := by omega
      have HF := hideB2 (HR.out.symm.trans (inNl_no (fun j hj => hall j (by rw [HM.out] at hj; exact hj))))
      clear hall
      go_wp2
      go_ret
      exact ⟨ret_bool HF.out, hb⟩
/-- What stands in the new list after k of the old one: s has been put in (t) or not. -/
def putTo (M : List ByteArray) (s : ByteArray) (k : Nat) (t : Bool) : List ByteArray := if t = true then insM s (M.take k) else M.take k
def pastK (M : List ByteArray) (s : ByteArray) (k : Nat) (t : Bool) : Prop := (t = true → ∃ x ∈ M.take k, Op.bytesLess s.toList x.toList = true) ∧ (t = false → ∀ x ∈ M.take k, Op.bytesLess s.toList x.toList = false)
theorem take_txt (M : List ByteArray) (k : Nat) (h : k < M.length) : M.take (k + 1) = M.take k ++ [txAt M k] := by rw [List.take_succ_eq_append_getElem h, txAt_get h]
theorem putTo_yes {M : List ByteArray} {s : ByteArray} {k : Nat} (h : k < M.length) (hp : pastK M s k true) : pastK M s (k + 1) true ∧ putTo M s (k + 1) true = putTo M s k true ++ [txAt M k] := by
  refine ⟨⟨fun _ => ?_, fun hh => by cases hh⟩, ?_⟩
  · obtain ⟨x, hx, hl⟩ := hp.1 rfl
    exact ⟨x, by rw [take_txt M k h]; simp [hx], hl⟩
  · unfold putTo
    rw [if_pos rfl, if_pos rfl, take_txt M k h, insM_done _ _ _ (hp.1 rfl)]
theorem putTo_here {M : List ByteArray} {s : ByteArray} {k : Nat} (h : k < M.length) (hp : pastK M s k false) (hl : Op.bytesLess s.toList (txAt M k).toList = true) : pastK M s (k + 1) true ∧ putTo M s (k + 1) true = putTo M s k false ++ [s] ++ [txAt M k] := by
  refine ⟨⟨fun _ => ⟨_, by rw [take_txt M k h]; simp, hl⟩, fun hh => by cases hh⟩, ?_⟩
  unfold putTo
  rw [if_pos rfl, if_neg (by simp), take_txt M k h, insM_past _ _ _ (hp.2 rfl), insM, if_pos hl]; simp
theorem putTo_on {M : List ByteArray} {s : ByteArray} {k : Nat} (h : k < M.length) (hp : pastK M s k false) (hl : Op.bytesLess s.toList (txAt M k).toList = false) : pastK M s (k + 1) false ∧ putTo M s (k + 1) false = putTo M s k false ++ [txAt M k] := by
  refine ⟨⟨fun hh => (by cases hh), fun _ x hx => ?_⟩, ?_⟩
  · rw [take_txt M k h, List.mem_append, List.mem_singleton] at hx
    rcases hx with hx | rfl
    · exact hp.2 rfl x hx
    · exact hl
  · unfold putTo
    rw [if_neg (by simp), if_neg (by simp), take_txt M k h]
theorem putTo_end_yes {M : List ByteArray} {s : ByteArray} : putTo M s M.length true = insM s M := by unfold putTo; rw [if_pos rfl, List.take_length]
theorem putTo_end_no {M : List ByteArray} {s : ByteArray} (hp : pastK M s M.length false) : putTo M s M.length false ++ [s] = insM s M := by
  have h2 := hp.2 rfl
  unfold putTo
  rw [if_neg (by simp)]
  rw [List.take_length] at h2 ⊢
  have := insM_past s M [] h2
  rw [List.append_nil] at this
  rw [this]; rfl
theorem putTo_len (M : List ByteArray) (s : ByteArray) (k : Nat) (t : Bool) : (putTo M s k t).length ≤ M.length + 1 := by
  unfold putTo
  split
  · rw [insM_len, List.length_take]; omega
  · rw [List.length_take]; omega
set_option maxHeartbeats 4000000 in
theorem l5put_any (w0 : World) (v : Value) (M : List ByteArray) (s : ByteArray) (w : World) (hv : BufS w0 w v M) (hl : M.length ≤ 10000) :
    Calls Tryz.prog 18 #[v, .string s] w fun e w' => ∃ v', e = .returned v' ∧ BufS w0 w' v' (putM M s) ∧ Below w.heap.size w w' := by
  obtain ⟨hs, _, _⟩ := hv.ans
  have HIN := hideB2 (l5in_any v M s w hs (by omega))
  obtain ⟨a, c0, rfl⟩ := hs.form
  cases hi : inNl M s
  · have HP := hideB2 (show putM M s = insM s M by unfold putM; rw [hi]; rfl)
    rw [hi] at HIN
    have HV := hideB2 hs
    have HB0 := hideB2 hv.below
    have HPL := hideB2 (putTo_len M s)
    have HEY := hideB2 (putTo_end_yes (M := M) (s := s))
    have HEN := hideB2 (fun h => putTo_end_no (M := M) (s := s) h)
    clear hi hs hv
    generalize hm : M.length = m at *
    have HM := hideB2 hm
    clear hm
    go_enter Tryz.func18, Tryz.ntmps18
    go_wp2_with fail
    refine HIN.out.mono ?_
    rintro e w1 ⟨rfl, hb1⟩
    have HB1 := hideB2 hb1
    clear hb1 HIN
    go_wp2
    go_loopw [5, 6, 7] (fun o d i wr => ∃ (k : Nat) (t : Bool), k ≤ m ∧ i = .int .i64 k ∧ d = .bool t ∧ pastK M s k t ∧ BufS w wr o (putTo M s k t)) (fun _ _ i _ => m - (intOf i).toNat)
    case atStart => exact ⟨0, false, Nat.zero_le _, rfl, rfl, ⟨fun h => (by cases h), fun _ x hx => by simp at hx⟩, (BufS.start w).later HB1.out⟩
    case round =>
      obtain ⟨k, t, hk, rfl, rfl, hp, hbuf⟩ := hrel
      clear HB1
      by_cases hlt : k < m
      · have hklt : k < M.length := by rw [HM.out]; exact hlt
        obtain ⟨b, rfl, hr⟩ := HV.out.row (by omega)
        have p0 := (hr.keep hbuf.below).cell k hklt
        have hpl := HPL.out k t
        have hkr : ∀ W v' L, BufS w W v' L → W.cell? ⟨b, k, none⟩ = some (.string (txAt M k)) := fun W v' L h => (hr.keep h.below).cell k hklt
        have HKR := hideB2 hkr
        clear hr hkr
        cases t
        · cases hl2 : Op.bytesLess s.toList (txAt M k).toList
          · obtain ⟨hp2, he⟩ := putTo_on hklt hp hl2
            have HP2 := hideB2 hp2
            have HE := hideB2 he
            clear hp2 he hp hklt
            generalize txAt M k = x at *
            generalize putTo M s k false = L at *
            go_wp2_with (at_builtin; refine wp_sapp rfl (.tmp 32) (.tmp 37) rfl _ _ rfl hbuf x rfl (by omega) ?_; intro v4 W4 hbuf4)
            exact ⟨⟨k + 1, false, by omega, by go_num, rfl, HP2.out, by rw [HE.out]; exact hbuf4⟩, by simp [intOf]; omega⟩
          · obtain ⟨hp2, he⟩ := putTo_here hklt hp hl2
            have HP2 := hideB2 hp2
            have HE := hideB2 he
            clear hp2 he hp hklt
            generalize hx : txAt M k = x at *
            clear hx
            generalize putTo M s k false = L at *
            go_wp2_with (first | (at_builtin; refine wp_sapp rfl (.tmp 28) (.tmp 30) rfl _ _ rfl hbuf s rfl (by omega) ?_; intro v4 W4 hbuf4; have p4 := HKR.out W4 v4 _ hbuf4) | (at_builtin; refine wp_sapp rfl (.tmp 32) (.tmp 37) rfl _ _ rfl hbuf4 x rfl (by simp; omega) ?_; intro v5 W5 hbuf5))
            exact ⟨⟨k + 1, true, by omega, by go_num, rfl, HP2.out, by rw [HE.out]; exact hbuf5⟩, by simp [intOf]; omega⟩
        · obtain ⟨hp2, he⟩ := putTo_yes hklt hp
          have HP2 := hideB2 hp2
          have HE := hideB2 he
          clear hp2 he hp hklt
          generalize txAt M k = x at *
          generalize putTo M s k true = L at *
          go_wp2_with (at_builtin; refine wp_sapp rfl (.tmp 32) (.tmp 37) rfl _ _ rfl hbuf x rfl (by omega) ?_; intro v4 W4 hbuf4)
          exact ⟨⟨k + 1, true, by omega, by go_num, rfl, HP2.out, by rw [HE.out]; exact hbuf4⟩, by simp [intOf]; omega⟩
      · obtain rfl : k = m := by omega
        have hpl := HPL.out k t
        cases t
        · have HE := hideB2 (HEN.out hp)
          generalize putTo M s k false = L at *
          clear hp HEY HEN
          go_wp2_with (at_builtin; refine wp_sapp rfl (.tmp 41) (.tmp 43) rfl _ _ rfl hbuf s rfl (by omega) ?_; intro v4 W4 hbuf4)
          go_ret
          exact ⟨_, rfl, by rw [HP.out, ← HE.out]; exact hbuf4.base HB0.out, hbuf4.below⟩
        · rw [HEY.out, ← HP.out] at hbuf
          clear hp HEY HEN
          go_wp2
          go_ret
          exact ⟨_, rfl, hbuf.base HB0.out, hbuf.below⟩
  · have HP := hideB2 (show putM M s = M by unfold putM; rw [hi]; rfl)
    rw [hi] at HIN
    have HV := hideB2 hv
    clear hi hs hv
    go_enter Tryz.func18, Tryz.ntmps18
    go_wp2_with fail
    refine HIN.out.mono ?_
    rintro e w1 ⟨rfl, hb1⟩
    have HR := hideB2 (HV.out.later hb1)
    have HBB := hideB2 hb1
    clear hb1 HIN HV
    go_wp2
    go_ret
    exact ⟨_, rfl, by rw [HP.out]; exact HR.out, HBB.out⟩
/-- The seven in a row of the call's own. -/
theorem base7_buf (w : World) : BufS w (w.alloc (.cells #[.string ⟨#[99, 111, 110, 110, 101, 99, 116, 105, 111, 110]⟩, .string ⟨#[107, 101, 101, 112, 45, 97, 108, 105, 118, 101]⟩, .string ⟨#[112, 114, 111, 120, 121, 45, 99, 111, 110, 110, 101, 99, 116, 105, 111, 110]⟩, .string ⟨#[116, 101]⟩, .string ⟨#[116, 114, 97, 105, 108, 101, 114]⟩, .string ⟨#[116, 114, 97, 110, 115, 102, 101, 114, 45, 101, 110, 99, 111, 100, 105, 110, 103]⟩, .string ⟨#[117, 112, 103, 114, 97, 100, 101]⟩] 9)) (.slice (some ⟨w.heap.size, 0, none⟩) 7 7) base7 := by
  refine ⟨(Below.refl _ w).alloc (Nat.le_refl _) _, rfl, .inr ⟨w.heap.size, 7, _, rfl, Nat.le_refl _, heap_alloc_new w _, Nat.le_refl _, by decide, rfl, rfl⟩⟩
set_option maxHeartbeats 4000000 in
theorem sHopNames_any (v : Value) (l : List Fd) (w : World) (hv : SlF w v l) (hl : l.length ≤ 1048576) (ht : totF l ≤ 1099511627776) :
    Calls Tryz.prog 6 #[v] w fun e w' => ∃ v', e = .returned v' ∧ BufS w w' v' (hopL l) := by
  have HW := hideB2 (fun W (h : SlF W v l) => sWords_any v l cnB W h hl ht (by unfold maxLen; decide))
  have hWf := hopW_facts l
  obtain ⟨a, c0, rfl⟩ := hv.form
  cases hq : fieldsQ l
  · have HF := hideB2 (show hopL l = [] by unfold hopL; rw [hq]; rfl)
    have HQ := hideB2 hq
    clear hq
    go_enter Tryz.func6, Tryz.ntmps6
    go_wp2_with (go_at_call 15; refine (sFieldsOk_any _ l _ hv hl ht).mono ?_; rintro e w2 ⟨rfl, hb2⟩; rw [HQ.out])
    go_ret
    exact ⟨_, rfl, by rw [HF.out]; exact (BufS.start w).later hb2⟩
  · have HF := hideB2 (show hopL l = hopTo (hopW l) by unfold hopL; rw [hq]; rfl)
    have HQ := hideB2 hq
    have HV := hideB2 hv
    unfold hopW at HF hWf
    generalize elsB (joinB (valuesL l cnB)) = Wd at *
    obtain ⟨hWl, hWs⟩ := hWf
    have HWS := hideB2 hWs
    clear hq hv hWs
    go_enter Tryz.func6, Tryz.ntmps6
    go_wp2_with fail
    refine (sFieldsOk_any _ l _ HV.out hl ht).mono ?_
    rintro e w2 ⟨rfl, hb2⟩
    rw [HQ.out]
    have HB7 := hideB2 ((base7_buf w2).base hb2)
    have HB2 := hideB2 (below_then hb2 (below_a1 w2 (.cells #[.string ⟨#[99, 111, 110, 110, 101, 99, 116, 105, 111, 110]⟩, .string ⟨#[107, 101, 101, 112, 45, 97, 108, 105, 118, 101]⟩, .string ⟨#[112, 114, 111, 120, 121, 45, 99, 111, 110, 110, 101, 99, 116, 105, 111, 110]⟩, .string ⟨#[116, 101]⟩, .string ⟨#[116, 114, 97, 105, 108, 101, 114]⟩, .string ⟨#[116, 114, 97, 110, 115, 102, 101, 114, 45, 101, 110, 99, 111, 100, 105, 110, 103]⟩, .string ⟨#[117, 112, 103, 114, 97, 100, 101]⟩] 9)))
    clear hb2
    go_wp2_with fail
    generalize hWa : w2.alloc _ = W2 at *
    clear hWa
    generalize w2.heap.size = B2 at *
    refine (HW.out _ (HV.out.later HB2.out)).mono ?_
    rintro e w3 ⟨v3, rfl, hbuf3⟩
    obtain ⟨hs3, _, hb3⟩ := hbuf3.ans
    have HBF := hideB2 (HB7.out.later hb3)
    obtain ⟨a3, c3, rfl⟩ := hs3.form
    have HS3 := hideB2 hs3
    clear hbuf3 hs3 hb3 HB7 HB2
    generalize hm : Wd.length = m at *
    have HM := hideB2 hm
    clear hm
    go_wp2
    go_loopw [3, 5] (fun o i wq => ∃ k : Nat, k ≤ m ∧ i = .int .i64 k ∧ BufS w wq o (hopTo (Wd.take k)) ∧ SlT wq (.slice a3 m c3) Wd) (fun _ i _ => m - (intOf i).toNat)
    case atStart => exact ⟨0, Nat.zero_le _, rfl, HBF.out, HS3.out⟩
    case round =>
      obtain ⟨i, hi, rfl, hbuf, hs⟩ := hrel
      clear HBF HS3
      by_cases hlt2 : i < m
      · have hilt : i < Wd.length := by rw [HM.out]; exact hlt2
        obtain ⟨b, rfl, hr⟩ := hs.row (by omega)
        have p0 := hr.cell i hilt
        have hsz : (txAt Wd i).size ≤ maxLen := by
          have := HWS.out (txAt Wd i) (by rw [txAt_get hilt]; exact List.getElem_mem _)
          unfold maxLen; omega
        have HNX := hideB2 (hopTo_next Wd i hilt)
        have hML : (hopTo (Wd.take i)).length ≤ 10000 := by
          have := hopTo_len (Wd.take i)
          rw [List.length_take] at this; omega
        have HKR := hideB2 (fun W (h : Below wr.heap.size wr W) => show W.cell? ⟨b, i, none⟩ = some (.string (txAt Wd i)) from (hr.keep h).cell i hilt)
        have HS := hideB2 hs
        clear hr hs hilt
        generalize txAt Wd i = x at *
        cases htok : tokB x
        · have HE := hideB2 (show hopTo (Wd.take (i + 1)) = hopTo (Wd.take i) by rw [HNX.out]; unfold hopStep; rw [htok]; rfl)
          have HT := hideB2 htok
          clear htok
          go_wp2_with (go_at_call 17; refine (sToken_any x _ hsz).mono ?_; rintro e w4 ⟨rfl, rfl⟩; rw [HT.out])
          exact ⟨⟨i + 1, by omega, by go_num, by rw [HE.out]; exact hbuf, HS.out⟩, by simp [intOf]; omega⟩
        · have HE := hideB2 (show hopTo (Wd.take (i + 1)) = putM (hopTo (Wd.take i)) (foldB x) by rw [HNX.out]; unfold hopStep; rw [htok]; rfl)
          have HT := hideB2 htok
          clear htok
          generalize hopTo (Wd.take i) = M at *
          go_wp2_with (first
            | (go_at_call 17; refine (sToken_any x _ hsz).mono ?_; rintro e w4 ⟨rfl, rfl⟩; rw [HT.out])
            | (go_at_call 19; refine (sFold_any x _ hsz).mono ?_; rintro e w5 ⟨rfl, hb5⟩; have hbuf5 := hbuf.later hb5; have hs5 := HS.out.later hb5; generalize foldB x = fx at *))
          refine (l5put_any w _ M fx _ hbuf5 hML).mono ?_
          rintro e w6 ⟨v6, rfl, hbuf6, hb6⟩
          have HBF := hideB2 hbuf6
          have HS6 := hideB2 (hs5.later hb6)
          clear hbuf6 hb6 hs5 hbuf5 hbuf
          go_wp2
          exact ⟨⟨i + 1, by omega, by go_num, by rw [HE.out]; exact HBF.out, HS6.out⟩, by simp [intOf]; omega⟩
      · obtain rfl : i = m := by omega
        have HE := hideB2 (show Wd.take i = Wd from List.take_of_length_le (by rw [HM.out]; exact Nat.le_refl _))
        rw [HE.out, ← HF.out] at hbuf
        clear hs HE
        go_wp2
        go_ret
        exact ⟨_, rfl, hbuf⟩
theorem own_block {w : World} {base : Nat} {e : TypeId} {size : Nat} {v : Value} {n : Nat} {xs : List Value} (h : w.ownsRow base e size v n xs) {g : Nat} (hg : v.ownBlock = some g) : ∃ cur, w.heap[g]? = some (.cells cur e (0, 0)) := by
  rcases h.2 with ⟨h1, _⟩ | ⟨g', cap, cur, h1, _, hh, _⟩
  · rw [h1] at hg; cases hg
  · rw [h1] at hg
    injection hg with hg
    subst hg
    exact ⟨cur, hh⟩
/-- A row of texts stays where a row of fields is put behind. -/
theorem BufS.past {w0 W W' : World} {vt vf : Value} {N : List ByteArray} {L : List Fd} (h : BufS w0 W vt N) (k : BufF w0 W vf L) (hg : W.grownBy W' vf.ownBlock) (hb : Below w0.heap.size w0 W') : BufS w0 W' vt N := by
  refine ⟨hb, h.own.kept hg ?_⟩
  cases hv : vt.ownBlock with
  | none => exact .inl rfl
  | some g =>
    refine .inr fun e => ?_
    obtain ⟨c1, h1⟩ := own_block h.own hv
    obtain ⟨c2, h2⟩ := own_block k.own e.symm
    rw [h1] at h2
    injection h2 with h2
    injection h2 with _ h2
    exact absurd h2 (by decide)
theorem e2eL_hop {l : List Fd} (h : fieldsQ l = true) : e2eL l = elseL l (hopL l) := by unfold e2eL; rw [if_pos h]
theorem hopL_pos {l : List Fd} (h : fieldsQ l = true) : 0 < (hopL l).length := by unfold hopL; rw [if_pos h]; exact hopTo_pos _
theorem hopL_nil {l : List Fd} (h : fieldsQ l = false) : hopL l = [] := by unfold hopL; rw [h]; rfl
end Go.Proofs.YtbdggopdhnlbfaaGreatDoor
