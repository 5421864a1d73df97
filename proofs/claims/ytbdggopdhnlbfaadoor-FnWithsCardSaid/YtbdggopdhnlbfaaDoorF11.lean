/-
  Chapter 5: HopNames and EndToEnd, the program's side.
-/
import Derived.Test.YtbdggopdhnlbfaaDoorF10
import Derived.Test.YtbdggopdhnlbfaaDoorW3
import Derived.Test.YtbdggopdhnlbfaaDoorMW
namespace Go.Proofs.YtbdggopdhnlbfaaDoor
set_option linter.unusedVariables false
set_option linter.unusedSimpArgs false
open Go.RowKit Go.Maps
theorem elsB_sizes (s : ByteArray) (h : s.size ≤ 4000) : ∀ t ∈ elsB s, t.size ≤ 100000 := by
  have key : ∀ (L : List UInt8) (q : Nat) (cur : List UInt8), ∀ p ∈ elG q cur L, p.length ≤ cur.length + L.length := by
    intro L
    induction L with
    | nil => intro q cur p hp; rw [elG_nil] at hp; simp at hp; subst hp; simp
    | cons b r ih =>
      intro q cur p hp
      match q with
      | 0 =>
        rw [elG] at hp
        split at hp
        · rcases List.mem_cons.1 hp with rfl | hp
          · simp
          · have := ih 0 [] p hp; simp at this ⊢; omega
        · have := ih _ _ p hp; simp at this ⊢; omega
      | 1 => rw [elG] at hp; have := ih _ _ p hp; simp at this ⊢; omega
      | n + 2 =>
        rw [elG] at hp
        · have := ih _ _ p hp; simp at this ⊢; omega
        · omega
        · omega
  intro t ht
  rw [els_small h] at ht
  unfold cleanP at ht
  rw [List.mem_flatMap] at ht
  obtain ⟨p, hp, ht⟩ := ht
  unfold keepP at ht
  split at ht
  · simp at ht
  · simp at ht
    subst ht
    have h1 := key _ _ _ p hp
    rw [len_data] at h1
    have h2 : (trimL p).length ≤ p.length := by
      have := trimB_size ⟨p.toArray⟩
      show (trimL p).length ≤ _
      have e : (trimB ⟨p.toArray⟩).size = (trimL p).length := by show (trimL p).toArray.size = _; simp
      have e2 : (ByteArray.mk p.toArray).size = p.length := by show p.toArray.size = _; simp
      omega
    show (trimL p).toArray.size ≤ _
    simp at h1 ⊢; omega
theorem hopW_facts (l : List Fd) : (hopW l).length ≤ 4001 ∧ ∀ t ∈ hopW l, t.size ≤ 100000 :=
  ⟨elsB_len _, elsB_sizes _ (by have := joinB_size (l := l) (n := cnB); omega)⟩
set_option maxRecDepth 10000 in
set_option maxHeartbeats 4000000 in
theorem HopNames_any (v : Value) (l : List Fd) (w : World) (hv : SlF w v l) (hl : l.length ≤ 1048576) (ht : totF l ≤ 1099511627776) (hh : Hops w) :
    Calls Tryd.prog 71 #[v] w fun e w' => ∃ v', e = .returned v' ∧ BufS w w' v' (hopL l) := by
  have HW := hideB2 (fun W (h : SlF W v l) => Words_any v l cnB W h hl ht (by unfold maxLen; decide))
  have hWf := hopW_facts l
  obtain ⟨a, c0, rfl⟩ := hv.form
  cases hq : fieldsQ l
  · have HF := hideB2 (show hopL l = [] by unfold hopL; rw [hq]; rfl)
    have HQ := hideB2 hq
    clear hq
    go_enter Tryd.func71, Tryd.ntmps71
    go_wp2_with (go_at_call 44; refine (FieldsOk_any _ l _ hv hl ht).mono ?_; rintro e w2 ⟨rfl, hb2⟩; rw [HQ.out])
    go_ret
    exact ⟨_, rfl, by rw [HF.out]; exact (BufS.start w).later hb2⟩
  · have HF := hideB2 (show hopL l = hopTo (hopW l) by unfold hopL; rw [hq]; rfl)
    have HQ := hideB2 hq
    have HV := hideB2 hv
    have HH := hideB2 hh
    have hmm := @run_makeMap Tryd.prog
    unfold hopW at HF hWf
    generalize elsB (joinB (valuesL l cnB)) = Wd at *
    obtain ⟨hWl, hWs⟩ := hWf
    have HWS := hideB2 hWs
    clear hq hv hh hWs
    go_enter Tryd.func71, Tryd.ntmps71
    go_wp2_with fail
    refine (FieldsOk_any _ l _ HV.out hl ht).mono ?_
    rintro e w2 ⟨rfl, hb2⟩
    rw [HQ.out]
    have hh2 := HH.out.later hb2
    have g0 := hh2.cell 0 (by omega)
    have g1 := hh2.cell 1 (by omega)
    have g2 := hh2.cell 2 (by omega)
    have g3 := hh2.cell 3 (by omega)
    have g4 := hh2.cell 4 (by omega)
    have g5 := hh2.cell 5 (by omega)
    have g6 := hh2.cell 6 (by omega)
    have hglt := hh2.lt
    have HB2 := hideB2 hb2
    clear hb2 hh2
    go_wp2
    clear g0 g1 g2 g3 g4 g5 g6 hmm
    generalize hn0 : txAt base7 0 = n0 at *
    have H0 := hideB2 hn0
    clear hn0
    generalize hn1 : txAt base7 1 = n1 at *
    have H1 := hideB2 hn1
    clear hn1
    generalize hn2 : txAt base7 2 = n2 at *
    have H2 := hideB2 hn2
    clear hn2
    generalize hn3 : txAt base7 3 = n3 at *
    have H3 := hideB2 hn3
    clear hn3
    generalize hn4 : txAt base7 4 = n4 at *
    have H4 := hideB2 hn4
    clear hn4
    generalize hn5 : txAt base7 5 = n5 at *
    have H5 := hideB2 hn5
    clear hn5
    generalize hn6 : txAt base7 6 = n6 at *
    have H6 := hideB2 hn6
    clear hn6
    have i0 : ∀ W, (Instr.index 108 (.agg #[.string n0, .string n1, .string n2, .string n3, .string n4, .string n5, .string n6]) (.int .i64 0)).run Tryd.prog W = .ok (.string n0) W := fun _ => by kernel_rfl
    have i1 : ∀ W, (Instr.index 108 (.agg #[.string n0, .string n1, .string n2, .string n3, .string n4, .string n5, .string n6]) (.int .i64 1)).run Tryd.prog W = .ok (.string n1) W := fun _ => by kernel_rfl
    have i2 : ∀ W, (Instr.index 108 (.agg #[.string n0, .string n1, .string n2, .string n3, .string n4, .string n5, .string n6]) (.int .i64 2)).run Tryd.prog W = .ok (.string n2) W := fun _ => by kernel_rfl
    have i3 : ∀ W, (Instr.index 108 (.agg #[.string n0, .string n1, .string n2, .string n3, .string n4, .string n5, .string n6]) (.int .i64 3)).run Tryd.prog W = .ok (.string n3) W := fun _ => by kernel_rfl
    have i4 : ∀ W, (Instr.index 108 (.agg #[.string n0, .string n1, .string n2, .string n3, .string n4, .string n5, .string n6]) (.int .i64 4)).run Tryd.prog W = .ok (.string n4) W := fun _ => by kernel_rfl
    have i5 : ∀ W, (Instr.index 108 (.agg #[.string n0, .string n1, .string n2, .string n3, .string n4, .string n5, .string n6]) (.int .i64 5)).run Tryd.prog W = .ok (.string n5) W := fun _ => by kernel_rfl
    have i6 : ∀ W, (Instr.index 108 (.agg #[.string n0, .string n1, .string n2, .string n3, .string n4, .string n5, .string n6]) (.int .i64 6)).run Tryd.prog W = .ok (.string n6) W := fun _ => by kernel_rfl
    generalize hB : w2.heap.size = B at *
    have HB := hideB2 hB
    have HM0 := hideB2 (show Kys (w2.alloc (.map #[] 0)) B 0 (base7.take 0) from ⟨_, by rw [← hB]; exact World.ownsMap_made _ _ _ _, CntD.none _ (fun s => rfl), fun s => rfl⟩)
    have HBA := hideB2 (show Below w.heap.size w (w2.alloc (.map #[] 0)) from below_then HB2.out (below_a1 w2 _))
    have hBw : w.heap.size ≤ B := by rw [← hB]; exact HB2.out.size
    generalize w2.alloc (.map #[] 0) = W2 at *
    clear hB HB HB2
    go_loopw [13] (fun i wr => ∃ k : Nat, k ≤ 7 ∧ i = .int .i64 k ∧ Kys wr B k (base7.take k) ∧ Below w.heap.size w wr) (fun i _ => 7 - (intOf i).toNat)
    case atStart => exact ⟨0, Nat.zero_le _, rfl, HM0.out, HBA.out⟩
    case round =>
      obtain ⟨k, hk, rfl, hc, hb⟩ := hrel
      clear HM0 HBA
      by_cases hlt : k < 7
      · have HNX := hideB2 (hasT_next base7 k (by rw [base7_len]; exact hlt))
        have HBW := hideB2 hb
        obtain ⟨D, hown, hD, hhas⟩ := hc
        have HHAS := hideB2 hhas
        have hkey : keyOf Tryd.prog 9 (.string (txAt base7 k)) = some (.string (txAt base7 k).data.toList) := WideMaps.keyOf_string_mk Tryd.underlying9 (by
          have h20 : ∀ t ∈ base7, t.size ≤ 20 := by unfold base7 cnB; decide
          have := h20 (txAt base7 k) (by rw [txAt_get (by rw [base7_len]; exact hlt)]; exact List.getElem_mem _)
          unfold maxLen; omega)
        clear hb hhas
        have hk7 : k = 0 ∨ k = 1 ∨ k = 2 ∨ k = 3 ∨ k = 4 ∨ k = 5 ∨ k = 6 := by omega
        rcases hk7 with rfl | rfl | rfl | rfl | rfl | rfl | rfl
        all_goals
          first | rw [H0.out] at HNX hkey | rw [H1.out] at HNX hkey | rw [H2.out] at HNX hkey | rw [H3.out] at HNX hkey | rw [H4.out] at HNX hkey | rw [H5.out] at HNX hkey | rw [H6.out] at HNX hkey
          first | rw [show ((0 : Nat) : Int) = 0 from rfl] | rw [show ((1 : Nat) : Int) = 1 from rfl] | rw [show ((2 : Nat) : Int) = 2 from rfl] | rw [show ((3 : Nat) : Int) = 3 from rfl] | rw [show ((4 : Nat) : Int) = 4 from rfl] | rw [show ((5 : Nat) : Int) = 5 from rfl] | rw [show ((6 : Nat) : Int) = 6 from rfl]
          go_wp2_with (first
            | (at_lookup; refine wpList_lookup_own_int _ rfl _ _ 107 rfl 9 3 .i64 Tryd.keyS Tryd.underlying107 Tryd.underlying3 (Tryd.zeroI _) B _ D rfl hown _ _ rfl hkey ?_; intro c hat hwc; obtain ⟨hc0, hc1, _⟩ := hD.at hat)
            | (at_mapUpdate; refine wpList_mapUpdate_own _ rfl _ _ _ 107 rfl 9 3 Tryd.keyS Tryd.underlying107 _ B _ D rfl hown (by unfold maxLen; omega) _ _ _ rfl rfl hkey _ [] (plainElem_int Tryd.underlying3 (WalkArith.wf_i64 (by omega))) ?_; intro w4 hown4 hgrow4))
          refine ⟨⟨_, by omega, by go_num, ⟨_, hown4, hD.put hown.isMap hat HNX.out, kys_put hown.isMap HHAS.out HNX.out⟩, ?_⟩, by simp [intOf]⟩
          exact HBW.out.grown hgrow4 HBW.out.size (fun j hj => by cases hj; exact hBw)
      · obtain rfl : k = 7 := by omega
        have HC := hideB2 (show Kys wr B 7 (hopTo (Wd.take 0)) from hc)
        have HBW := hideB2 hb
        clear hc hb
        go_wp2_with fail
        refine (HW.out _ (HV.out.later HBW.out)).mono ?_
        rintro e w3 ⟨v3, rfl, hbuf3⟩
        have HC3 := hideB2 (HC.out.later hbuf3.below)
        have HB3 := hideB2 (below_then HBW.out hbuf3.below)
        obtain ⟨hs3, _, _⟩ := hbuf3.ans
        obtain ⟨a3, c3, rfl⟩ := hs3.form
        have HS3 := hideB2 hs3
        clear HC HBW hbuf3 hs3
        generalize hm : Wd.length = m at *
        have HM := hideB2 hm
        clear hm
        go_wp2
        go_loopw [24] (fun i wq => ∃ k : Nat, k ≤ m ∧ i = .int .i64 k ∧ Kys wq B (7 + k) (hopTo (Wd.take k)) ∧ SlT wq (.slice a3 m c3) Wd ∧ Below w.heap.size w wq) (fun i _ => m - (intOf i).toNat)
        case atStart => exact ⟨0, Nat.zero_le _, rfl, HC3.out, HS3.out, HB3.out⟩
        case round =>
          obtain ⟨i, hi, rfl, hc, hs, hb⟩ := hrel
          clear HC3 HS3 HB3
          by_cases hlt2 : i < m
          · have hilt : i < Wd.length := by rw [HM.out]; exact hlt2
            obtain ⟨b, rfl, hr⟩ := hs.row (by omega)
            have p0 := hr.cell i hilt
            have hsz : (txAt Wd i).size ≤ maxLen := by
              have := HWS.out (txAt Wd i) (by rw [txAt_get hilt]; exact List.getElem_mem _)
              unfold maxLen; omega
            have HNX := hideB2 (hopTo_next Wd i hilt)
            have HBW := hideB2 hb
            have HS := hideB2 hs
            have hrlt := hr.lt
            clear hr hb hs hilt
            generalize txAt Wd i = x at *
            obtain ⟨D, hown, hD, hhas⟩ := hc
            have HHAS := hideB2 hhas
            clear hhas
            cases htok : tokB x
            · have HE := hideB2 (show hopTo (Wd.take (i + 1)) = hopTo (Wd.take i) by rw [HNX.out]; unfold hopStep; rw [htok]; rfl)
              have HT := hideB2 htok
              clear htok
              go_wp2_with (go_at_call 87; refine (Token_any x _ hsz).mono ?_; rintro e w4 ⟨rfl, rfl⟩; rw [HT.out])
              refine ⟨⟨i + 1, by omega, by go_num, ?_, HS.out, HBW.out⟩, by simp [intOf]; omega⟩
              rw [HE.out]
              refine ⟨D, hown.mono (by omega), fun s => ?_, HHAS.out⟩
              obtain ⟨c, q1, q2, q3, q4⟩ := hD s
              exact ⟨c, q1, q2, by omega, q4⟩
            · have HE := hideB2 (show hopTo (Wd.take (i + 1)) = putM (hopTo (Wd.take i)) (foldB x) by rw [HNX.out]; unfold hopStep; rw [htok]; rfl)
              have HT := hideB2 htok
              have hfs : (foldB x).size ≤ maxLen := by rw [foldB_size]; exact hsz
              have hkey : keyOf Tryd.prog 9 (.string (foldB x)) = some (.string (foldB x).data.toList) := WideMaps.keyOf_string_mk Tryd.underlying9 hfs
              have HP := hideB2 (hasT_put (hopTo (Wd.take i)) (foldB x))
              clear htok hfs
              rw [← HE.out] at HP
              clear HE
              go_wp2_with (first
                | (go_at_call 87; refine (Token_any x _ hsz).mono ?_; rintro e w4 ⟨rfl, rfl⟩; rw [HT.out])
                | (go_at_call 80; refine (Fold_any x _ hsz).mono ?_; rintro e w5 ⟨rfl, hb5⟩; have hown5 := hown.kept (below_gb hb5 none) (by simp); generalize foldB x = fx at *)
                | (at_lookup; refine wpList_lookup_own_int _ rfl _ _ 107 rfl 9 3 .i64 Tryd.keyS Tryd.underlying107 Tryd.underlying3 (Tryd.zeroI _) B _ D rfl hown5 _ _ rfl hkey ?_; intro c hat hwc; obtain ⟨hc0, hc1, _⟩ := hD.at hat)
                | (at_mapUpdate; refine wpList_mapUpdate_own _ rfl _ _ _ 107 rfl 9 3 Tryd.keyS Tryd.underlying107 _ B _ D rfl hown5 (by unfold maxLen; omega) _ _ _ rfl rfl hkey _ [] (plainElem_int Tryd.underlying3 (WalkArith.wf_i64 (by omega))) ?_; intro w6 hown6 hgrow6))
              refine ⟨⟨i + 1, by omega, by go_num, ⟨_, hown6, hD.put hown.isMap hat HP.out, kys_put hown.isMap HHAS.out HP.out⟩, ?_, ?_⟩, by simp [intOf]; omega⟩
              · refine (HS.out.later hb5).gb hgrow6 (fun g hg hg' => ?_)
                injection hg with hg
                injection hg' with hg'
                subst hg hg'
                obtain ⟨es, ck, hbk, _⟩ := hown
                have := (World.cell?_of_block (w := w4) (w' := w4) rfl).trans p0
                simp [World.cell?, hbk] at this
              · exact (below_then HBW.out hb5).grown hgrow6 (below_then HBW.out hb5).size (fun j hj => by cases hj; exact hBw)
          · obtain rfl : i = m := by omega
            have HE := hideB2 (show Wd.take i = Wd from List.take_of_length_le (by rw [HM.out]; exact Nat.le_refl _))
            rw [HE.out, ← HF.out] at hc
            have HS := hideB2 (Sorted_keys B (7 + i) (hopL l) wr hc (by rw [HF.out]; exact hopTo_asc _) (by omega))
            have HBW := hideB2 hb
            clear hc hb hs HE
            go_wp2_with fail
            refine (Keys_any B _).mono ?_
            rintro e w5 ⟨rfl, rfl⟩
            go_wp2_with fail
            refine HS.out.mono ?_
            rintro e w6 ⟨v6, rfl, hbuf6⟩
            have HR := hideB2 (hbuf6.base HBW.out)
            clear hbuf6
            go_wp2
            go_ret
            exact ⟨_, rfl, HR.out⟩
def e2eL (l : List Fd) : List Fd := if fieldsQ l = true then elseL l (hopL l) else []
theorem e2eL_len (l : List Fd) : (e2eL l).length ≤ 20 := by
  unfold e2eL
  split
  · rename_i h
    exact Nat.le_trans (elseL_len _ _) (fieldsQ_iff.1 h).1
  · simp
theorem hopL_sizes (l : List Fd) : ∀ t ∈ hopL l, t.size ≤ 100000 := by
  unfold hopL
  split
  · exact hopTo_sizes _ _ (by omega) (hopW_facts l).2
  · intro t ht; simp at ht
theorem hopL_len (l : List Fd) : (hopL l).length ≤ 4008 := by
  unfold hopL
  split
  · have h1 := hopTo_len (hopW l)
    have h2 := (hopW_facts l).1
    omega
  · simp
end Go.Proofs.YtbdggopdhnlbfaaDoor
