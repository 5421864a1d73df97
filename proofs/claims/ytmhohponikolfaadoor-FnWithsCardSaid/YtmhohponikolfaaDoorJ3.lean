/-
  Chapter 5: the names that speak of this connection: the program's side. · How many elements a list can have. · Chapter 5: HopNames and EndToEnd, the program's side. · Chapter 5: a field comes back from its line; the laws' sign of life. · Chapter 5: Without, the specification's side; With, both sides. · What the drawing functions share: a cursor over the code, of which the laws need only that numbers come out of it. No Go text is walked here. · A block known whole, kept while numbers are drawn. · The walks over the drawing functions: what they answer is a number within its bounds, or a text. · The walks over the drawing functions, more. · The walks over the drawing functions: l1bend. · The walks over the drawing functions of chapter 1. · The drawing functions of chapter 5: a name, a field. · The drawing functions of chapter 5: a field, bent or not.
-/
import Derived.Test.YtmhohponikolfaaDoorJ2
import Derived.Deep.WholeRow
import Derived.Test.YtmhohponikolfaaDoorJ1
import Derived.Test.YtmhohponikolfaaDoorJ0
import Derived.Deep.Quiet
import Derived.Deep.RegionWith
import Derived.Deep.QuietTactic
import Derived.BigQuiet
namespace Go.Proofs.YtmhohponikolfaaDoor
set_option linter.unusedVariables false
set_option linter.unusedSimpArgs false
open Go.RowKit Go.Maps Go.Sort Go.Shelf
/-- The table of the seven, as the start lays it. -/
structure Hops (w : World) : Prop where
  cell : ∀ j, j < 7 → w.cell? ⟨0, j, none⟩ = some (.string (txAt base7 j))
  lt : 0 < w.heap.size
theorem Hops.later {w w' : World} (h : Hops w) (k : Below w.heap.size w w') : Hops w' := ⟨fun j hj => by rw [k.cell (p := ⟨0, j, none⟩) h.lt]; exact h.cell j hj, Nat.lt_of_lt_of_le h.lt k.size⟩
/-- Block b is a map whose keys are the texts M. -/
def Kys (w : World) (b n : Nat) (M : List ByteArray) : Prop := ∃ D : DataW Unit, w.ownsMap Tryd.prog 9 (plainElem Tryd.prog 3) b n D ∧ CntD D n (hasT M) ∧ ∀ s, Maps.has D (.string s) = hasT M s
theorem Kys.later {w w' : World} {b n : Nat} {M : List ByteArray} (h : Kys w b n M) (hb : Below w.heap.size w w') : Kys w' b n M := by
  obtain ⟨D, h1, h2⟩ := h
  exact ⟨D, h1.kept (below_gb hb none) (by simp), h2⟩
theorem kys_put {D : DataW Unit} {M M' : List ByteArray} {s : List UInt8} {c : Int} (hm : IsMap D) (h : ∀ t, Maps.has D (.string t) = hasT M t) (hq : ∀ t, hasT M' t = (hasT M t || t == s)) : ∀ t, Maps.has (D.put (.string s) (.lit (.int .i64 c))) (.string t) = hasT M' t := by
  intro t
  by_cases e : t = s
  · subst e
    rw [has_put_same hm (show WideAt.IsKeyLit (.string t) from trivial), hq]; simp
  · rw [has_put_other (by intro hh; injection hh with hh; exact e hh), h, hq]
    have : (t == s) = false := by simpa using e
    rw [this, Bool.or_false]
theorem Tryd.sorts (m : Nat) : AnyZ.SortsIn Tryd.prog Tryd.laysSorted_ren Fence.wide m :=
  ⟨fun blk off cap ss W hH hblk hsz => callsIn_wide.2 (AnyM.slices_Sort_string Tryd.laysSort blk off cap ss W hH hblk hsz),
   fun p cap W => callsIn_wide.2 (AnyM.slices_Sort_string_none Tryd.laysSort p cap W)⟩
theorem Keys_any (b : Nat) (W : World) : Calls Tryd.prog 43 #[.map (some b)] W fun e w' => e = .returned (.func (.func 58) #[] #[.pointer (some ⟨W.heap.size, 0, none⟩)]) ∧ w' = W.alloc (.cells #[.map (some b)] 61) :=
  (callsIn_wide (n := 5)).1 (AnyZ.keys_in Tryd.laysKeys Fence.wide 5 trivial rfl (some b) W)
set_option maxHeartbeats 1000000 in
theorem Sorted_keys (b nn : Nat) (M : List ByteArray) (w : World) (h : Kys w b nn M) (hM : Asc M) (hn : nn ≤ 100000) :
    Calls Tryd.prog 42 #[.func (.func 58) #[] #[.pointer (some ⟨w.heap.size, 0, none⟩)]] (w.alloc (.cells #[.map (some b)] 61)) fun e w' => ∃ v, e = .returned v ∧ BufS w w' v M := by
  obtain ⟨D0, hown, _, hhas⟩ := h
  have hbl := hown.lt
  have hsz := hown.size_le
  have hmax : Maps.size D0 ≤ maxLen := by unfold maxLen; omega
  have hbytes : Maps.size D0 * 16 ≤ 140737488355328 := by omega
  have hseq : SeqGives Fence.wide 2 Tryd.prog 58 #[.pointer (some ⟨w.heap.size, 0, none⟩)] encStr (fun ss => ss.Perm (strKeys D0)) (Maps.size D0) (w.alloc (.cells #[.map (some b)] 61)) :=
    AnyZ.keys_gives (ρ := Tryd.laysKeys_ren) { Tryd.laysKeys with } Fence.wide _ trivial rfl (by omega) w.heap.size b nn D0 _ (by simp) (by simp) (by
      obtain ⟨es, clock, hb, Ft, hs, hD⟩ := hown
      exact ⟨es, clock, (Below.heap_alloc _ _ b hbl).trans hb, Ft, hs, hD⟩)
  have cS := AnyZ.sorted_in Tryd.laysSorted Fence.wide 5 trivial trivial trivial trivial rfl (by omega) (Tryd.sorts _) (enters_of Tryd.func57 (by kernel_rfl) rfl) 58 #[.pointer (some ⟨w.heap.size, 0, none⟩)] trivial (enters_of Tryd.func58 (by kernel_rfl) rfl) _ _ hmax hbytes _ hseq
  refine ((callsIn_wide (n := 5)).1 cS).mono ?_
  rintro e w' ⟨v, ss, rfl, hp, hrow, _, hb⟩
  have ha := below_a1 w (.cells #[.map (some b)] 61)
  refine ⟨v, rfl, below_then ha hb, ?_⟩
  have hMk : (M.map fun t => t.data.toList).Perm (strKeys D0) := by
    obtain ⟨es, rfl, hp0⟩ := hown.tidy Tryd.keyS
    obtain ⟨es', he, hk⟩ := hown.keysOf
    injection he with he
    subst he
    refine perm_strKeys hp0 (fun p hp => ?_) hM.nodup (fun x => ?_)
    · obtain ⟨kv, hkv⟩ := hk p hp
      obtain ⟨x, _, hx, _⟩ := Maps.keyOf_str Tryd.underlying9 hkv
      exact ⟨x, hx⟩
    · rw [hhas, hasT_iff, List.mem_map]
      constructor
      · rintro ⟨t, ht, rfl⟩; exact ht
      · intro hx; exact ⟨_, hx, rfl⟩
  have hsort : ss.mergeSort (fun x y => decide (x ≤ y)) = M.map fun t => t.data.toList := by
    have := mergeSort_of_perm (hp.trans hMk.symm)
    rw [show (fun x y : List UInt8 => decide (x ≤ y)) = leB from rfl, this, hM.sort]
  have hlen : ss.length = M.length := by
    have := (hp.trans hMk.symm).length_eq
    simpa using this
  rw [hsort, hlen, List.map_map] at hrow
  have hrow2 := ownsRow_base_a hrow ha.size
  have e : (M.map (encStr ∘ fun t => t.data.toList)) = M.map Value.string := List.map_congr_left fun t _ => rfl
  rw [e] at hrow2
  exact hrow2
end Go.Proofs.YtmhohponikolfaaDoor
namespace Go.Proofs.YtmhohponikolfaaDoor
set_option linter.unusedVariables false
set_option linter.unusedSimpArgs false
open Go.RowKit
theorem elG_len : ∀ (l : List UInt8) (q : Nat) (cur : List UInt8), (elG q cur l).length ≤ l.length + 1
  | [], q, cur => by rw [elG_nil]; simp
  | b :: r, 0, cur => by
    rw [elG]; split
    · have := elG_len r 0 []; simp; omega
    · have := elG_len r (if b = 34 then 1 else 0) (cur ++ [b]); simp; omega
  | b :: r, 1, cur => by
    rw [elG]
    have := elG_len r (if b = 34 then 0 else if b = 92 then 2 else 1) (cur ++ [b]); simp; omega
  | b :: r, n + 2, cur => by
    rw [elG]
    · have := elG_len r 1 (cur ++ [b]); simp; omega
    · omega
    · omega
theorem elsB_len (s : ByteArray) : (elsB s).length ≤ 4001 := by
  unfold elsB
  split
  · rename_i h
    have h1 := cleanP_len (elG 0 [] s.data.toList)
    have h2 := elG_len s.data.toList 0 []
    rw [len_data] at h2
    omega
  · simp
end Go.Proofs.YtmhohponikolfaaDoor
namespace Go.Proofs.YtmhohponikolfaaDoor
set_option linter.unusedVariables false
set_option linter.unusedSimpArgs false
open Go.RowKit Go.Maps
theorem elsB_sizes (s : ByteArray) (h : s.size ≤ 4000) : ∀ t ∈ elsB s, t.size ≤ 100000 := by
  have key : ∀ (L : List UInt8) (q : Nat) (cur : List UInt8), ∀ p ∈ elG q cur L, p.length ≤ cur.length + L.length := by
    intro L
    induction L with
    | nil => intro q cur p hp; rw [elG_nil] at hp; simp at hp; subst hp; simp
    | cons b r ih =>
      intro q cur p hp
      match q with
      | 0 =>
        rw [elG] at hp
        split at hp
        · rcases List.mem_cons.1 hp with rfl | hp
          · simp
          · have := ih 0 [] p hp; simp at this ⊢; omega
        · have := ih _ _ p hp; simp at this ⊢; omega
      | 1 => rw [elG] at hp; have := ih _ _ p hp; simp at this ⊢; omega
      | n + 2 =>
        rw [elG] at hp
        · have := ih _ _ p hp; simp at this ⊢; omega
        · omega
        · omega
  intro t ht
  rw [els_small h] at ht
  unfold cleanP at ht
  rw [List.mem_flatMap] at ht
  obtain ⟨p, hp, ht⟩ := ht
  unfold keepP at ht
  split at ht
  · simp at ht
  · simp at ht
    subst ht
    have h1 := key _ _ _ p hp
    rw [len_data] at h1
    have h2 : (trimL p).length ≤ p.length := by
      have := trimB_size ⟨p.toArray⟩
      show (trimL p).length ≤ _
      have e : (trimB ⟨p.toArray⟩).size = (trimL p).length := by show (trimL p).toArray.size = _; simp
      have e2 : (ByteArray.mk p.toArray).size = p.length := by show p.toArray.size = _; simp
      omega
    show (trimL p).toArray.size ≤ _
    simp at h1 ⊢; omega
theorem hopW_facts (l : List Fd) : (hopW l).length ≤ 4001 ∧ ∀ t ∈ hopW l, t.size ≤ 100000 :=
  ⟨elsB_len _, elsB_sizes _ (by have := joinB_size (l := l) (n := cnB); omega)⟩
set_option maxRecDepth 10000 in
set_option maxHeartbeats 4000000 in
theorem HopNames_any (v : Value) (l : List Fd) (w : World) (hv : SlF w v l) (hl : l.length ≤ 1048576) (ht : totF l ≤ 1099511627776) (hh : Hops w) :
    Calls Tryd.prog 24 #[v] w fun e w' => ∃ v', e = .returned v' ∧ BufS w w' v' (hopL l) := by
  have HW := hideB2 (fun W (h : SlF W v l) => Words_any v l cnB W h hl ht (by unfold maxLen; decide))
  have hWf := hopW_facts l
  obtain ⟨a, c0, rfl⟩ := hv.form
  cases hq : fieldsQ l
  · have HF := hideB2 (show hopL l = [] by unfold hopL; rw [hq]; rfl)
    have HQ := hideB2 hq
    clear hq
    go_enter Tryd.func24, Tryd.ntmps24
    go_wp2_with (go_at_call 14; refine (FieldsOk_any _ l _ hv hl ht).mono ?_; rintro e w2 ⟨rfl, hb2⟩; rw [HQ.out])
    go_ret
    exact ⟨_, rfl, by rw [HF.out]; exact (BufS.start w).later hb2⟩
  · have HF := hideB2 (show hopL l = hopTo (hopW l) by unfold hopL; rw [hq]; rfl)
    have HQ := hideB2 hq
    have HV := hideB2 hv
    have HH := hideB2 hh
    have hmm := @run_makeMap Tryd.prog
    unfold hopW at HF hWf
    generalize elsB (joinB (valuesL l cnB)) = Wd at *
    obtain ⟨hWl, hWs⟩ := hWf
    have HWS := hideB2 hWs
    clear hq hv hh hWs
    go_enter Tryd.func24, Tryd.ntmps24
    go_wp2_with fail
    refine (FieldsOk_any _ l _ HV.out hl ht).mono ?_
    rintro e w2 ⟨rfl, hb2⟩
    rw [HQ.out]
    have hh2 := HH.out.later hb2
    have g0 := hh2.cell 0 (by omega)
    have g1 := hh2.cell 1 (by omega)
    have g2 := hh2.cell 2 (by omega)
    have g3 := hh2.cell 3 (by omega)
    have g4 := hh2.cell 4 (by omega)
    have g5 := hh2.cell 5 (by omega)
    have g6 := hh2.cell 6 (by omega)
    have hglt := hh2.lt
    have HB2 := hideB2 hb2
    clear hb2 hh2
    go_wp2
    clear g0 g1 g2 g3 g4 g5 g6 hmm
    generalize hn0 : txAt base7 0 = n0 at *
    have H0 := hideB2 hn0
    clear hn0
    generalize hn1 : txAt base7 1 = n1 at *
    have H1 := hideB2 hn1
    clear hn1
    generalize hn2 : txAt base7 2 = n2 at *
    have H2 := hideB2 hn2
    clear hn2
    generalize hn3 : txAt base7 3 = n3 at *
    have H3 := hideB2 hn3
    clear hn3
    generalize hn4 : txAt base7 4 = n4 at *
    have H4 := hideB2 hn4
    clear hn4
    generalize hn5 : txAt base7 5 = n5 at *
    have H5 := hideB2 hn5
    clear hn5
    generalize hn6 : txAt base7 6 = n6 at *
    have H6 := hideB2 hn6
    clear hn6
    have i0 : ∀ W, (Instr.index 62 (.agg #[.string n0, .string n1, .string n2, .string n3, .string n4, .string n5, .string n6]) (.int .i64 0)).run Tryd.prog W = .ok (.string n0) W := fun _ => by kernel_rfl
    have i1 : ∀ W, (Instr.index 62 (.agg #[.string n0, .string n1, .string n2, .string n3, .string n4, .string n5, .string n6]) (.int .i64 1)).run Tryd.prog W = .ok (.string n1) W := fun _ => by kernel_rfl
    have i2 : ∀ W, (Instr.index 62 (.agg #[.string n0, .string n1, .string n2, .string n3, .string n4, .string n5, .string n6]) (.int .i64 2)).run Tryd.prog W = .ok (.string n2) W := fun _ => by kernel_rfl
    have i3 : ∀ W, (Instr.index 62 (.agg #[.string n0, .string n1, .string n2, .string n3, .string n4, .string n5, .string n6]) (.int .i64 3)).run Tryd.prog W = .ok (.string n3) W := fun _ => by kernel_rfl
    have i4 : ∀ W, (Instr.index 62 (.agg #[.string n0, .string n1, .string n2, .string n3, .string n4, .string n5, .string n6]) (.int .i64 4)).run Tryd.prog W = .ok (.string n4) W := fun _ => by kernel_rfl
    have i5 : ∀ W, (Instr.index 62 (.agg #[.string n0, .string n1, .string n2, .string n3, .string n4, .string n5, .string n6]) (.int .i64 5)).run Tryd.prog W = .ok (.string n5) W := fun _ => by kernel_rfl
    have i6 : ∀ W, (Instr.index 62 (.agg #[.string n0, .string n1, .string n2, .string n3, .string n4, .string n5, .string n6]) (.int .i64 6)).run Tryd.prog W = .ok (.string n6) W := fun _ => by kernel_rfl
    generalize hB : w2.heap.size = B at *
    have HB := hideB2 hB
    have HM0 := hideB2 (show Kys (w2.alloc (.map #[] 0)) B 0 (base7.take 0) from ⟨_, by rw [← hB]; exact World.ownsMap_made _ _ _ _, CntD.none _ (fun s => rfl), fun s => rfl⟩)
    have HBA := hideB2 (show Below w.heap.size w (w2.alloc (.map #[] 0)) from below_then HB2.out (below_a1 w2 _))
    have hBw : w.heap.size ≤ B := by rw [← hB]; exact HB2.out.size
    generalize w2.alloc (.map #[] 0) = W2 at *
    clear hB HB HB2
    go_loopw [13] (fun i wr => ∃ k : Nat, k ≤ 7 ∧ i = .int .i64 k ∧ Kys wr B k (base7.take k) ∧ Below w.heap.size w wr) (fun i _ => 7 - (intOf i).toNat)
    case atStart => exact ⟨0, Nat.zero_le _, rfl, HM0.out, HBA.out⟩
    case round =>
      obtain ⟨k, hk, rfl, hc, hb⟩ := hrel
      clear HM0 HBA
      by_cases hlt : k < 7
      · have HNX := hideB2 (hasT_next base7 k (by rw [base7_len]; exact hlt))
        have HBW := hideB2 hb
        obtain ⟨D, hown, hD, hhas⟩ := hc
        have HHAS := hideB2 hhas
        have hkey : keyOf Tryd.prog 9 (.string (txAt base7 k)) = some (.string (txAt base7 k).data.toList) := WideMaps.keyOf_string_mk Tryd.underlying9 (by
          have h20 : ∀ t ∈ base7, t.size ≤ 20 := by unfold base7 cnB; decide
          have := h20 (txAt base7 k) (by rw [txAt_get (by rw [base7_len]; exact hlt)]; exact List.getElem_mem _)
          unfold maxLen; omega)
        clear hb hhas
        have hk7 : k = 0 ∨ k = 1 ∨ k = 2 ∨ k = 3 ∨ k = 4 ∨ k = 5 ∨ k = 6 := by omega
        rcases hk7 with rfl | rfl | rfl | rfl | rfl | rfl | rfl
        all_goals
          first | rw [H0.out] at HNX hkey | rw [H1.out] at HNX hkey | rw [H2.out] at HNX hkey | rw [H3.out] at HNX hkey | rw [H4.out] at HNX hkey | rw [H5.out] at HNX hkey | rw [H6.out] at HNX hkey
          first | rw [show ((0 : Nat) : Int) = 0 from rfl] | rw [show ((1 : Nat) : Int) = 1 from rfl] | rw [show ((2 : Nat) : Int) = 2 from rfl] | rw [show ((3 : Nat) : Int) = 3 from rfl] | rw [show ((4 : Nat) : Int) = 4 from rfl] | rw [show ((5 : Nat) : Int) = 5 from rfl] | rw [show ((6 : Nat) : Int) = 6 from rfl]
          go_wp2_with (first
            | (at_lookup; refine wpList_lookup_own_int _ rfl _ _ 61 rfl 9 3 .i64 Tryd.keyS Tryd.underlying61 Tryd.underlying3 (Tryd.zeroI _) B _ D rfl hown _ _ rfl hkey ?_; intro c hat hwc; obtain ⟨hc0, hc1, _⟩ := hD.at hat)
            | (at_mapUpdate; refine wpList_mapUpdate_own _ rfl _ _ _ 61 rfl 9 3 Tryd.keyS Tryd.underlying61 _ B _ D rfl hown (by unfold maxLen; omega) _ _ _ rfl rfl hkey _ [] (plainElem_int Tryd.underlying3 (WalkArith.wf_i64 (by omega))) ?_; intro w4 hown4 hgrow4))
          refine ⟨⟨_, by omega, by go_num, ⟨_, hown4, hD.put hown.isMap hat HNX.out, kys_put hown.isMap HHAS.out HNX.out⟩, ?_⟩, by simp [intOf]⟩
          exact HBW.out.grown hgrow4 HBW.out.size (fun j hj => by cases hj; exact hBw)
      · obtain rfl : k = 7 := by omega
        have HC := hideB2 (show Kys wr B 7 (hopTo (Wd.take 0)) from hc)
        have HBW := hideB2 hb
        clear hc hb
        go_wp2_with fail
        refine (HW.out _ (HV.out.later HBW.out)).mono ?_
        rintro e w3 ⟨v3, rfl, hbuf3⟩
        have HC3 := hideB2 (HC.out.later hbuf3.below)
        have HB3 := hideB2 (below_then HBW.out hbuf3.below)
        obtain ⟨hs3, _, _⟩ := hbuf3.ans
        obtain ⟨a3, c3, rfl⟩ := hs3.form
        have HS3 := hideB2 hs3
        clear HC HBW hbuf3 hs3
        generalize hm : Wd.length = m at *
        have HM := hideB2 hm
        clear hm
        go_wp2
        go_loopw [24] (fun i wq => ∃ k : Nat, k ≤ m ∧ i = .int .i64 k ∧ Kys wq B (7 + k) (hopTo (Wd.take k)) ∧ SlT wq (.slice a3 m c3) Wd ∧ Below w.heap.size w wq) (fun i _ => m - (intOf i).toNat)
        case atStart => exact ⟨0, Nat.zero_le _, rfl, HC3.out, HS3.out, HB3.out⟩
        case round =>
          obtain ⟨i, hi, rfl, hc, hs, hb⟩ := hrel
          clear HC3 HS3 HB3
          by_cases hlt2 : i < m
          · have hilt : i < Wd.length := by rw [HM.out]; exact hlt2
            obtain ⟨b, rfl, hr⟩ := hs.row (by omega)
            have p0 := hr.cell i hilt
            have hsz : (txAt Wd i).size ≤ maxLen := by
              have := HWS.out (txAt Wd i) (by rw [txAt_get hilt]; exact List.getElem_mem _)
              unfold maxLen; omega
            have HNX := hideB2 (hopTo_next Wd i hilt)
            have HBW := hideB2 hb
            have HS := hideB2 hs
            have hrlt := hr.lt
            clear hr hb hs hilt
            generalize txAt Wd i = x at *
            obtain ⟨D, hown, hD, hhas⟩ := hc
            have HHAS := hideB2 hhas
            clear hhas
            cases htok : tokB x
            · have HE := hideB2 (show hopTo (Wd.take (i + 1)) = hopTo (Wd.take i) by rw [HNX.out]; unfold hopStep; rw [htok]; rfl)
              have HT := hideB2 htok
              clear htok
              go_wp2_with (go_at_call 34; refine (Token_any x _ hsz).mono ?_; rintro e w4 ⟨rfl, rfl⟩; rw [HT.out])
              refine ⟨⟨i + 1, by omega, by go_num, ?_, HS.out, HBW.out⟩, by simp [intOf]; omega⟩
              rw [HE.out]
              refine ⟨D, hown.mono (by omega), fun s => ?_, HHAS.out⟩
              obtain ⟨c, q1, q2, q3, q4⟩ := hD s
              exact ⟨c, q1, q2, by omega, q4⟩
            · have HE := hideB2 (show hopTo (Wd.take (i + 1)) = putM (hopTo (Wd.take i)) (foldB x) by rw [HNX.out]; unfold hopStep; rw [htok]; rfl)
              have HT := hideB2 htok
              have hfs : (foldB x).size ≤ maxLen := by rw [foldB_size]; exact hsz
              have hkey : keyOf Tryd.prog 9 (.string (foldB x)) = some (.string (foldB x).data.toList) := WideMaps.keyOf_string_mk Tryd.underlying9 hfs
              have HP := hideB2 (hasT_put (hopTo (Wd.take i)) (foldB x))
              clear htok hfs
              rw [← HE.out] at HP
              clear HE
              go_wp2_with (first
                | (go_at_call 34; refine (Token_any x _ hsz).mono ?_; rintro e w4 ⟨rfl, rfl⟩; rw [HT.out])
                | (go_at_call 27; refine (Fold_any x _ hsz).mono ?_; rintro e w5 ⟨rfl, hb5⟩; have hown5 := hown.kept (below_gb hb5 none) (by simp); generalize foldB x = fx at *)
                | (at_lookup; refine wpList_lookup_own_int _ rfl _ _ 61 rfl 9 3 .i64 Tryd.keyS Tryd.underlying61 Tryd.underlying3 (Tryd.zeroI _) B _ D rfl hown5 _ _ rfl hkey ?_; intro c hat hwc; obtain ⟨hc0, hc1, _⟩ := hD.at hat)
                | (at_mapUpdate; refine wpList_mapUpdate_own _ rfl _ _ _ 61 rfl 9 3 Tryd.keyS Tryd.underlying61 _ B _ D rfl hown5 (by unfold maxLen; omega) _ _ _ rfl rfl hkey _ [] (plainElem_int Tryd.underlying3 (WalkArith.wf_i64 (by omega))) ?_; intro w6 hown6 hgrow6))
              refine ⟨⟨i + 1, by omega, by go_num, ⟨_, hown6, hD.put hown.isMap hat HP.out, kys_put hown.isMap HHAS.out HP.out⟩, ?_, ?_⟩, by simp [intOf]; omega⟩
              · refine (HS.out.later hb5).gb hgrow6 (fun g hg hg' => ?_)
                injection hg with hg
                injection hg' with hg'
                subst hg hg'
                obtain ⟨es, ck, hbk, _⟩ := hown
                have := (World.cell?_of_block (w := w4) (w' := w4) rfl).trans p0
                simp [World.cell?, hbk] at this
              · exact (below_then HBW.out hb5).grown hgrow6 (below_then HBW.out hb5).size (fun j hj => by cases hj; exact hBw)
          · obtain rfl : i = m := by omega
            have HE := hideB2 (show Wd.take i = Wd from List.take_of_length_le (by rw [HM.out]; exact Nat.le_refl _))
            rw [HE.out, ← HF.out] at hc
            have HS := hideB2 (Sorted_keys B (7 + i) (hopL l) wr hc (by rw [HF.out]; exact hopTo_asc _) (by omega))
            have HBW := hideB2 hb
            clear hc hb hs HE
            go_wp2_with fail
            refine (Keys_any B _).mono ?_
            rintro e w5 ⟨rfl, rfl⟩
            go_wp2_with fail
            refine HS.out.mono ?_
            rintro e w6 ⟨v6, rfl, hbuf6⟩
            have HR := hideB2 (hbuf6.base HBW.out)
            clear hbuf6
            go_wp2
            go_ret
            exact ⟨_, rfl, HR.out⟩
def e2eL (l : List Fd) : List Fd := if fieldsQ l = true then elseL l (hopL l) else []
theorem e2eL_len (l : List Fd) : (e2eL l).length ≤ 20 := by
  unfold e2eL
  split
  · rename_i h
    exact Nat.le_trans (elseL_len _ _) (fieldsQ_iff.1 h).1
  · simp
theorem hopL_sizes (l : List Fd) : ∀ t ∈ hopL l, t.size ≤ 100000 := by
  unfold hopL
  split
  · exact hopTo_sizes _ _ (by omega) (hopW_facts l).2
  · intro t ht; simp at ht
theorem hopL_len (l : List Fd) : (hopL l).length ≤ 4008 := by
  unfold hopL
  split
  · have h1 := hopTo_len (hopW l)
    have h2 := (hopW_facts l).1
    omega
  · simp
end Go.Proofs.YtmhohponikolfaaDoor
namespace Go.Proofs.YtmhohponikolfaaDoor
set_option linter.unusedVariables false
set_option linter.unusedSimpArgs false
open Go.RowKit
theorem trimL_pre (a m : List UInt8) (h : ∀ x ∈ a, gap8 x = true) : trimL (a ++ m) = trimL m := by
  unfold trimL
  rw [dropWhile_all gap8 a m h]
theorem trimL_suf (m z : List UInt8) (h : ∀ x ∈ z, gap8 x = true) : trimL (m ++ z) = trimL m := by
  unfold trimL
  rw [List.dropWhile_append]
  have hz : z.dropWhile gap8 = [] := by
    have := dropWhile_all gap8 z [] h
    rw [List.append_nil] at this
    rw [this]; rfl
  split
  · rename_i he
    have : m.dropWhile gap8 = [] := by simpa using he
    rw [hz, this]
  · rw [List.reverse_append, dropWhile_all gap8 z.reverse _ (fun x hx => h x (by simpa using hx))]
theorem tok_no_colon {d : ByteArray} (h : tokB d = true) : ∀ j, j < d.size → at8 d j ≠ 58 := by
  intro j hj he
  have hall : d.data.toList.all tok8 = true := by
    unfold tokB at h
    rw [Bool.and_eq_true] at h
    exact h.2
  have hl : j < d.data.toList.length := by rw [len_data]; exact hj
  have := List.all_eq_true.1 hall _ (List.getElem_mem hl)
  unfold at8 at he
  rw [List.getD, List.getElem?_eq_getElem hl] at he
  have he' : d.data.toList[j] = 58 := he
  rw [he'] at this
  revert this
  decide
/-- A line that opens with the name and a ':'. -/
def colB (d : ByteArray) (z : List UInt8) : ByteArray := ⟨(d.data.toList ++ [58] ++ z).toArray⟩
theorem colB_list (d : ByteArray) (z : List UInt8) : (colB d z).data.toList = d.data.toList ++ [58] ++ z := rfl
theorem colB_size (d : ByteArray) (z : List UInt8) : (colB d z).size = d.size + 1 + z.length := by
  rw [← len_data, colB_list, List.length_append, List.length_append, len_data]; simp
theorem read_back (d s : ByteArray) (z : List UInt8) (hq : fieldQ (d, s) = true) (hz : trimL z = s.data.toList) : readO (colB d z) = true ∧ readF (colB d z) = (d, s) := by
  have ht := (fieldQ_iff.1 hq).2.1
  have hlen := colB_size d z
  have hat : ∀ j, j < d.size → at8 (colB d z) j = at8 d j := by
    intro j hj
    unfold at8
    rw [colB_list, List.append_assoc, List.getD, List.getD, List.getElem?_append_left (by rw [len_data]; exact hj)]
  have h58 : at8 (colB d z) d.size = 58 := by
    unfold at8
    rw [colB_list, List.append_assoc, List.getD, List.getElem?_append_right (by rw [len_data]; exact Nat.le_refl _), len_data, Nat.sub_self]; rfl
  have hi : idxC (colB d z) = (d.size : Int) := idxC_of (by omega) h58 (fun j hj => by rw [hat j hj]; exact tok_no_colon ht j hj)
  have hc : cutF (colB d z) d.size = (d, s) := by
    unfold cutF
    refine Prod.ext (bytes_ext ?_) (bytes_ext ?_)
    · show ((colB d z).extract 0 d.size).data.toList = _
      rw [extract_list, colB_list, List.append_assoc, List.drop_zero, List.take_append_of_le_length (by rw [len_data]; exact Nat.le_refl _), List.take_of_length_le (by rw [len_data]; exact Nat.le_refl _)]
    · show trimL ((colB d z).extract (d.size + 1) (colB d z).size).data.toList = _
      rw [extract_list, List.take_of_length_le (by rw [len_data]; exact Nat.le_refl _), colB_list, List.drop_append_of_le_length (by rw [List.length_append, len_data]; simp), List.drop_of_length_le (by rw [List.length_append, len_data]; simp), List.nil_append, hz]
  obtain ⟨h1, h2⟩ := readO_some hi
  rw [hc, hq] at h1 h2
  exact ⟨h1, h2⟩
theorem trim_val {d s : ByteArray} (hq : fieldQ (d, s) = true) : trimL s.data.toList = s.data.toList := by
  have := (valQ_iff.1 (fieldQ_iff.1 hq).2.2).2.2
  exact congrArg (fun x => x.data.toList) this
theorem read_line {d s : ByteArray} (hq : fieldQ (d, s) = true) : readO (flnF (d, s)) = true ∧ readF (flnF (d, s)) = (d, s) := by
  have e : flnF (d, s) = colB d ([32] ++ s.data.toList) := by
    apply bytes_ext
    rw [colB_list]
    simp [flnF]
  rw [e]
  refine read_back d s _ hq ?_
  rw [trimL_pre [32] _ (by decide), trim_val hq]
theorem read_wide {d s : ByteArray} (hq : fieldQ (d, s) = true) : readO (d ++ ⟨#[58, 9, 32]⟩ ++ s ++ ⟨#[32]⟩) = true ∧ readF (d ++ ⟨#[58, 9, 32]⟩ ++ s ++ ⟨#[32]⟩) = (d, s) := by
  have e : d ++ ⟨#[58, 9, 32]⟩ ++ s ++ ⟨#[32]⟩ = colB d ([9, 32] ++ (s.data.toList ++ [32])) := by
    apply bytes_ext
    rw [colB_list]
    simp [Go.Joins.data_append]
  rw [e]
  refine read_back d s _ hq ?_
  rw [trimL_pre [9, 32] _ (by decide), trimL_suf _ [32] (by decide), trim_val hq]
theorem one_row {W : World} {b : Nat} {d s : ByteArray} {t : TypeId} (h : Blk W b #[.string d, .string s] t) : SlF W (.slice (some ⟨b, 0, none⟩) 1 1) [(d, s)] := by
  refine .inr ⟨b, 1, rfl, ⟨fun j hj => ?_, fun j hj => ?_, fun j => h.free j, h.lt⟩⟩
  · have e : j = 0 := by simpa using hj
    subst e
    exact h.cell 0
  · have e : j = 0 := by simpa using hj
    subst e
    exact h.cell 1
theorem life1 : readO ⟨#[65, 58, 32, 32, 98, 32]⟩ = true ∧ readF ⟨#[65, 58, 32, 32, 98, 32]⟩ = (⟨#[65]⟩, ⟨#[98]⟩) := ⟨by kernel_rfl, by kernel_rfl⟩
theorem life2 : getO [(⟨#[65]⟩, ⟨#[98]⟩)] ⟨#[97]⟩ = true ∧ getB [(⟨#[65]⟩, ⟨#[98]⟩)] ⟨#[97]⟩ = ⟨#[98]⟩ := ⟨by kernel_rfl, by kernel_rfl⟩
theorem life3 : (hopL []).length = 7 := by kernel_rfl
set_option maxHeartbeats 2000000 in
theorem heads_any (w : World) (hh : Hops w) :
    Calls Tryd.prog 7 #[] w fun e w' => e = .returned (.bool true) ∧ Below w.heap.size w w' := by
  have HR := hideB2 (fun W => ReadField_any ⟨#[65, 58, 32, 32, 98, 32]⟩ W (by unfold maxLen; decide))
  have HG := hideB2 (fun b W (h : SlF W (.slice (some ⟨b, 0, none⟩) 1 1) [(⟨#[65]⟩, ⟨#[98]⟩)]) => Get_any (.slice (some ⟨b, 0, none⟩) 1 1) [(⟨#[65]⟩, ⟨#[98]⟩)] ⟨#[97]⟩ W h (by decide) (by decide) (by unfold maxLen; decide))
  have HN := hideB2 (fun W (g : Hops W) => HopNames_any (.slice none 0 0) [] W (.inl ⟨rfl, rfl⟩) (by decide) (by decide) g)
  have h7 := life3
  rw [life1.1, life1.2] at HR
  rw [life2.1, life2.2] at HG
  generalize hopL [] = N at *
  go_enter Tryd.func7, Tryd.ntmps7
  go_wp2_with fail
  refine (HR.out _).mono ?_
  rintro e w1 ⟨rfl, hb1⟩
  have ha1 := below_a1 w1 (.cells #[.string ⟨#[65]⟩, .string ⟨#[98]⟩] 25)
  have N1 := Blk.new w1 #[.string ⟨#[65]⟩, .string ⟨#[98]⟩] 25
  have hsz1 : (w1.alloc (.cells #[.string ⟨#[65]⟩, .string ⟨#[98]⟩] 25)).heap.size = w1.heap.size + 1 := by simp
  go_wp2_with fail
  generalize w1.alloc (.cells #[.string ⟨#[65]⟩, .string ⟨#[98]⟩] 25) = W1 at *
  have N2 := Blk.new W1 #[.string ⟨#[65]⟩, .string ⟨#[98]⟩] 25
  have ha2 := below_a1 W1 (.cells #[.string ⟨#[65]⟩, .string ⟨#[98]⟩] 25)
  rw [hsz1] at N2
  refine (HG.out _ _ (one_row N2)).mono ?_
  rintro e w3 ⟨rfl, hb3⟩
  have hbw := below_then (below_then (below_then hb1 ha1) ha2) hb3
  obtain ⟨p0, p1⟩ := ((N1.later ha2).later hb3).c2
  have hh3 := hh.later hbw
  have HBW := hideB2 hbw
  clear N1 N2 ha1 ha2 hb1 hb3 hbw hsz1 HR HG
  go_wp2_with (go_at_call 24; refine (HN.out _ hh3).mono ?_; rintro e w4 ⟨v4, rfl, hbuf4⟩; obtain ⟨a4, c4, rfl⟩ := hbuf4.form; rw [h7])
  go_ret
  exact ⟨rfl, below_then HBW.out hbuf4.below⟩
end Go.Proofs.YtmhohponikolfaaDoor
namespace Go.Proofs.YtmhohponikolfaaDoor
set_option linter.unusedVariables false
set_option linter.unusedSimpArgs false
open Go.RowKit Go.Maps
theorem keepN_next (l : List Fd) (n : ByteArray) (k : Nat) (h : k < l.length) : (l.take (k + 1)).filter (fun x => !nameIs n x) = (l.take k).filter (fun x => !nameIs n x) ++ (if nameIs n (fdAt l k) = true then [] else [fdAt l k]) := by
  rw [keepF_next l _ k h]
  cases nameIs n (fdAt l k) <;> simp
set_option maxHeartbeats 2000000 in
theorem sWithout_any (v : Value) (l : List Fd) (n : ByteArray) (w : World) (hv : SlF w v l) (hl : l.length ≤ 1048576) (ht : totF l ≤ 1099511627776) (hn : n.size ≤ maxLen) :
    Calls Tryd.prog 13 #[v, .string n] w fun e w' => ∃ v', e = .returned v' ∧ BufF w w' v' (withoutL l n) := by
  obtain ⟨a, c0, rfl⟩ := hv.form
  cases hq : fieldsQ l
  · have HF := hideB2 (withoutL_no (n := n) hq)
    have HQ := hideB2 hq
    clear hq
    go_enter Tryd.func13, Tryd.ntmps13
    go_wp2_with (go_at_call 21; refine (sFieldsOk_any _ l _ hv hl ht).mono ?_; rintro e w2 ⟨rfl, hb2⟩; rw [HQ.out])
    go_ret
    exact ⟨_, rfl, by rw [HF.out]; exact (BufF.start w).later hb2⟩
  · have HF := hideB2 (show withoutL l n = l.filter (fun x => !nameIs n x) by unfold withoutL; rw [if_pos hq])
    have HQ := hideB2 hq
    have HV := hideB2 hv
    have hl20 := (fieldsQ_iff.1 hq).1
    have HFQ := hideB2 (fun j (hj : j < l.length) => fieldQ_sizes (fieldsQ_at hq hj))
    have HNN := hideB2 hn
    clear hq hl hn
    generalize hm : l.length = m at *
    have HM := hideB2 hm
    clear hm hv
    go_enter Tryd.func13, Tryd.ntmps13
    go_wp2_with (go_at_call 21; refine (sFieldsOk_any _ l _ HV.out (by rw [HM.out]; omega) ht).mono ?_; rintro e w2 ⟨rfl, hb2⟩; rw [HQ.out])
    go_loopw [5, 6] (fun o i wr => ∃ k : Nat, k ≤ m ∧ i = .int .i64 k ∧ BufF w wr o ((l.take k).filter (fun x => !nameIs n x))) (fun _ i _ => m - (intOf i).toNat)
    case atStart => exact ⟨0, Nat.zero_le _, rfl, (BufF.start w).later hb2⟩
    case round =>
      obtain ⟨k, hk, rfl, hbuf⟩ := hrel
      by_cases hlt : k < m
      · have hklt : k < l.length := by rw [HM.out]; exact hlt
        obtain ⟨b, rfl, hr⟩ := HV.out.row (by omega)
        have p0 := (hr.later hbuf.below hr.lt).dat k hklt
        have p1 := (hr.later hbuf.below hr.lt).saf k hklt
        have hsz := HFQ.out k (by rw [HM.out] at hklt; exact hklt)
        have HR := hideB2 (hr.later hbuf.below hr.lt)
        have HKL := hideB2 hklt
        have HNX := hideB2 (keepN_next l n k hklt)
        have hvl : ((l.take k).filter (fun x => !nameIs n x)).length ≤ 20 := by
          have := List.length_filter_le (fun x => !nameIs n x) (l.take k)
          rw [List.length_take] at this; omega
        have HVL := hideB2 hvl
        clear hr hvl hb2
        generalize hx : fdAt l k = x at *
        have HX := hideB2 hx
        clear hx
        obtain ⟨d, s⟩ := x
        simp only at p0 p1 hsz
        have hd : d.size ≤ maxLen := by unfold maxLen; omega
        have HD := hideB2 hd
        clear hsz hd hklt
        generalize (l.take k).filter (fun x => !nameIs n x) = L at *
        cases hc : nameIs n (d, s)
        · have HC := hideB2 (show eqB (foldB d) (foldB n) = false from hc)
          rw [hc] at HNX
          clear hc
          go_wp2_with (first | (go_at_call 28; refine (sSameFold_any d n _ HD.out HNN.out).mono ?_; rintro e w3 ⟨rfl, hb3⟩; rw [HC.out]; have q0 := (HR.out.keep hb3).dat k HKL.out; have q1 := (HR.out.keep hb3).saf k HKL.out; rw [HX.out] at q0 q1; simp only at q0 q1; have hbuf3 := hbuf.later hb3) | (at_builtin; refine wp_fapp rfl (.tmp 24) (.tmp 29) rfl _ _ rfl hbuf3 d s rfl (by have := HVL.out; omega) ?_; intro v2 W2 hbuf4 hgrow4))
          refine ⟨⟨k + 1, by omega, by go_num, ?_⟩, by simp [intOf]; omega⟩
          rw [HNX.out]
          exact hbuf4
        · have HC := hideB2 (show eqB (foldB d) (foldB n) = true from hc)
          rw [hc] at HNX
          clear hc
          go_wp2_with (go_at_call 28; refine (sSameFold_any d n _ HD.out HNN.out).mono ?_; rintro e w3 ⟨rfl, hb3⟩; rw [HC.out])
          refine ⟨⟨k + 1, by omega, by go_num, ?_⟩, by simp [intOf]; omega⟩
          rw [HNX.out]
          have := hbuf.later hb3
          simpa using this
      · obtain rfl : k = m := by omega
        have HE := hideB2 (show (l.take k).filter (fun x => !nameIs n x) = withoutL l n by rw [HF.out, List.take_of_length_le (by rw [HM.out]; exact Nat.le_refl _)])
        rw [HE.out] at hbuf
        clear HE
        go_wp2
        go_ret
        exact ⟨_, rfl, hbuf⟩
theorem withL_no1 {l : List Fd} {f : Fd} (h : fieldsQ l = false) : withL l f = [] := by unfold withL; rw [if_neg (by rw [h]; simp)]
theorem withL_no2 {l : List Fd} {f : Fd} (h : fieldQ f = false) : withL l f = [] := by unfold withL; rw [if_neg (by rw [h]; simp)]
theorem withL_yes {l : List Fd} {f : Fd} (h : fieldsQ l = true) (h2 : fieldQ f = true) : withL l f = if (withoutL l f.1).length < 20 then withoutL l f.1 ++ [f] else [] := by
  unfold withL withoutL
  rw [if_pos h]
  by_cases h3 : (l.filter (fun x => !nameIs f.1 x)).length < 20
  · rw [if_pos ⟨h, h2, h3⟩, if_pos h3]
  · rw [if_neg (fun hh => h3 hh.2.2), if_neg h3]
theorem withoutL_len (l : List Fd) (n : ByteArray) : (withoutL l n).length ≤ 20 := by
  unfold withoutL
  split
  · rename_i h
    exact Nat.le_trans (List.length_filter_le _ _) (fieldsQ_iff.1 h).1
  · simp
theorem withL_len (l : List Fd) (f : Fd) : (withL l f).length ≤ 20 := by
  unfold withL
  split
  · rename_i h
    rw [List.length_append, List.length_singleton]; omega
  · simp
/-- append(x, f) inside a region that draws: f lies in block N. -/
theorem step_fapp {ops : Array Oper} {o : Oper} {a : Act} {W : World} {K : Act → World → Prop} {Q : Exit → Act → World → Prop} {E : Prop} (hgd : o.guard = none) (s x : Operand)
    (ho : o.op = .call { callee := .builtin .append, args := #[s, x], argTypes := #[23, 23] }) (w0 : World) (v : Value) (l : List Fd) (hs : a.eval s = v) (hbuf : BufF w0 W v l) (N : Nat) (d t : ByteArray)
    (hx : a.eval x = .slice (some ⟨N, 0, none⟩) 1 1) (hN : Blk W N #[.string d, .string t] 25) (hlen : l.length ≤ 20)
    (k : ∀ v' W', BufF w0 W' v' (l ++ [(d, t)]) → K (a.put o.dst v') W') :
    if Region.wanted o (yielded ops a.tmps) = true then Oper.wp Tryd.prog o a W K Q else E := by
  obtain ⟨i0, hi, hz0, hz1, hz2⟩ := info_parts Tryd.infoF
  refine step_append_lies W hgd s x 23 ho w0.heap.size 25 i0 _ 2 32 Tryd.underlying23 hi hz0 hz1 hz2 rfl (by decide) v l.length (cellsF l) hs hbuf.own ⟨N, 0, none⟩ 1 1 (cellsF [(d, t)]) hx (by rw [cellsF_len]; rfl) ?_ (cellsF_one _) (by omega) (by unfold maxLen; omega) (by omega) hbuf.below.size _ rfl ?_
  · intro j u hu
    have hj : j < 2 := by have := (List.getElem?_eq_some_iff.1 hu).1; rwa [cellsF_len] at this
    rw [Addr.add_lit, Nat.zero_add, hN.cell j, ← hu]
    rcases j with _ | _ | j
    · rfl
    · rfl
    · omega
  intro g cap w' hown hgrow _ _
  refine k _ w' ⟨?_, ?_⟩
  · refine hbuf.below.grown hgrow hbuf.below.size ?_
    intro j hj
    exact (hbuf.own.lt j hj).1
  · rw [List.length_append, List.length_singleton, cellsF_app]
    exact hown
set_option maxRecDepth 100000 in
set_option maxHeartbeats 4000000 in
theorem With_any (v : Value) (l : List Fd) (d s : ByteArray) (w : World) (hv : SlF w v l) (hl : l.length ≤ 1048576) (ht : totF l ≤ 1099511627776) (hd : d.size ≤ maxLen) (hs : s.size ≤ maxLen) :
    Calls Tryd.prog 5 #[v, .agg #[.string d, .string s]] w fun e w' => ∃ v', e = .returned v' ∧ BufF w w' v' (withL l (d, s)) := by
  have ha := below_a1 w (.cells #[.string d, .string s] 25)
  have A0 := Blk.new w #[.string d, .string s] 25
  have HW := hideB2 (fun W (h : SlF W v l) => Without_any v l d W h hl ht hd)
  have hwl := withoutL_len l d
  obtain ⟨a, c0, rfl⟩ := hv.form
  have HV := hideB2 (hv.later ha)
  have HF := hideB2 (fun W (h : SlF W (.slice a l.length c0) l) => FieldsOk_any (.slice a l.length c0) l W h hl ht)
  have HG := hideB2 (fun W => FieldOk_any d s W hd hs)
  clear hv hd hs ht
  cases hq : fieldsQ l
  · have HE := hideB2 (withL_no1 (f := (d, s)) hq)
    rw [hq] at HF
    clear hq
    go_enter Tryd.func5, Tryd.ntmps5
    go_wp2_with (go_at_call 14; refine (HF.out _ HV.out).mono ?_; rintro e w2 ⟨rfl, hb2⟩)
    go_ret
    exact ⟨_, rfl, by rw [HE.out]; exact (BufF.start w).later (below_then ha hb2)⟩
  · cases hg : fieldQ (d, s)
    · have HE := hideB2 (withL_no2 (l := l) hg)
      rw [hq] at HF
      rw [hg] at HG
      clear hq hg
      go_enter Tryd.func5, Tryd.ntmps5
      go_wp2_with fail
      refine (HF.out _ HV.out).mono ?_
      rintro e w2 ⟨rfl, hb2⟩
      obtain ⟨p0, p1⟩ := (A0.later hb2).c2
      go_wp2_with (go_at_call 20; refine (HG.out _).mono ?_; rintro e w3 ⟨rfl, hb3⟩)
      go_ret
      exact ⟨_, rfl, by rw [HE.out]; exact (BufF.start w).later (below_then (below_then ha hb2) hb3)⟩
    · have HE := hideB2 (withL_yes (f := (d, s)) hq hg)
      rw [hq] at HF
      rw [hg] at HG
      clear hq hg
      generalize withoutL l d = L at *
      go_enter Tryd.func5, Tryd.ntmps5
      go_wp2_with fail
      refine (HF.out _ HV.out).mono ?_
      rintro e w2 ⟨rfl, hb2⟩
      obtain ⟨p0, p1⟩ := (A0.later hb2).c2
      go_wp2_with (go_at_call 20; refine (HG.out _).mono ?_; rintro e w3 ⟨rfl, hb3⟩)
      have A3 := (A0.later hb2).later hb3
      have hbw := below_then (below_then ha hb2) hb3
      have HV3 := hideB2 ((HV.out.later hb2).later hb3)
      clear p0 p1 HF HG HV hb2 hb3 A0 ha
      obtain ⟨p0, p1⟩ := A3.c2
      have ka := fun o => (A3.alloc o).cell 0
      have kb := fun o => (A3.alloc o).cell 1
      have HA := hideB2 A3
      have HB := hideB2 hbw
      clear A3 hbw
      go_cut [5] (fun t wc => BufF w wc t (L ++ [(d, s)]))
      case first =>
        go_region_law (first
          | (refine step_fapp rfl (.tmp 17) (.tmp 19) rfl _ _ _ rfl (by first | exact hbuf0.alloc _ | exact hbuf0) _ d s rfl (by first | exact Blk.new _ _ _ | exact (Blk.new w3 _ _).drew.later hbuf0.below) hwl ?_; intro v5 W5 hbuf5)
          | (go_simp; go_at_call 12; refine (HW.out _ ?_).mono ?_; (first | exact HV3.out.later (Below.refl _ w3).drew | exact HV3.out.later (below_a1 w3 _).drew); rintro e w4 ⟨v4, rfl, hbuf0⟩; (have hu : w4.cell? ⟨w.heap.size, 0, none⟩ = some (.string d) ∧ w4.cell? ⟨w.heap.size, 1, none⟩ = some (.string s) := by first | exact (HA.out.drew.later hbuf0.below).c2 | exact ((HA.out.alloc _).drew.later hbuf0.below).c2); obtain ⟨u0, u1⟩ := hu; simp only []))
        all_goals
          go_wp2_with fail
          go_meet
          first | exact hbuf5.base (below_then HB.out (Below.refl _ w3).drew) | exact hbuf5.base (below_then HB.out (below_a1 w3 _).drew)
      case rest =>
        have hbuf := hcut
        obtain ⟨a5, c5, rfl⟩ := hbuf.form
        by_cases h20 : L.length < 20
        · have HE2 := hideB2 (HE.out.trans (if_pos h20))
          have HBF := hideB2 hbuf
          rw [List.length_append, List.length_singleton]
          clear hcut hbuf HE
          go_wp2
          go_ret
          exact ⟨_, rfl, by rw [HE2.out]; have := HBF.out; rw [List.length_append, List.length_singleton] at this; exact this⟩
        · have HE2 := hideB2 (HE.out.trans (if_neg h20))
          have HBB := hideB2 hbuf.below
          rw [List.length_append, List.length_singleton]
          clear hcut hbuf HE
          go_wp2
          go_ret
          exact ⟨_, rfl, by rw [HE2.out]; exact (BufF.start w).later HBB.out⟩
set_option maxRecDepth 100000 in
set_option maxHeartbeats 4000000 in
theorem sWith_any (v : Value) (l : List Fd) (d s : ByteArray) (w : World) (hv : SlF w v l) (hl : l.length ≤ 1048576) (ht : totF l ≤ 1099511627776) (hd : d.size ≤ maxLen) (hs : s.size ≤ maxLen) :
    Calls Tryd.prog 6 #[v, .agg #[.string d, .string s]] w fun e w' => ∃ v', e = .returned v' ∧ BufF w w' v' (withL l (d, s)) := by
  have ha := below_a1 w (.cells #[.string d, .string s] 25)
  have A0 := Blk.new w #[.string d, .string s] 25
  have HW := hideB2 (fun W (h : SlF W v l) => sWithout_any v l d W h hl ht hd)
  have hwl := withoutL_len l d
  obtain ⟨a, c0, rfl⟩ := hv.form
  have HV := hideB2 (hv.later ha)
  have HF := hideB2 (fun W (h : SlF W (.slice a l.length c0) l) => sFieldsOk_any (.slice a l.length c0) l W h hl ht)
  have HG := hideB2 (fun W => sFieldOk_any d s W hd hs)
  clear hv hd hs ht
  cases hq : fieldsQ l
  · have HE := hideB2 (withL_no1 (f := (d, s)) hq)
    rw [hq] at HF
    clear hq
    go_enter Tryd.func6, Tryd.ntmps6
    go_wp2_with (go_at_call 21; refine (HF.out _ HV.out).mono ?_; rintro e w2 ⟨rfl, hb2⟩)
    go_ret
    exact ⟨_, rfl, by rw [HE.out]; exact (BufF.start w).later (below_then ha hb2)⟩
  · cases hg : fieldQ (d, s)
    · have HE := hideB2 (withL_no2 (l := l) hg)
      rw [hq] at HF
      rw [hg] at HG
      clear hq hg
      go_enter Tryd.func6, Tryd.ntmps6
      go_wp2_with fail
      refine (HF.out _ HV.out).mono ?_
      rintro e w2 ⟨rfl, hb2⟩
      obtain ⟨p0, p1⟩ := (A0.later hb2).c2
      go_wp2_with (go_at_call 22; refine (HG.out _).mono ?_; rintro e w3 ⟨rfl, hb3⟩)
      go_ret
      exact ⟨_, rfl, by rw [HE.out]; exact (BufF.start w).later (below_then (below_then ha hb2) hb3)⟩
    · have HE := hideB2 (withL_yes (f := (d, s)) hq hg)
      rw [hq] at HF
      rw [hg] at HG
      clear hq hg
      generalize withoutL l d = L at *
      go_enter Tryd.func6, Tryd.ntmps6
      go_wp2_with fail
      refine (HF.out _ HV.out).mono ?_
      rintro e w2 ⟨rfl, hb2⟩
      obtain ⟨p0, p1⟩ := (A0.later hb2).c2
      go_wp2_with (go_at_call 22; refine (HG.out _).mono ?_; rintro e w3 ⟨rfl, hb3⟩)
      have A3 := (A0.later hb2).later hb3
      have hbw := below_then (below_then ha hb2) hb3
      have HV3 := hideB2 ((HV.out.later hb2).later hb3)
      clear p0 p1 HF HG HV hb2 hb3 A0 ha
      obtain ⟨p0, p1⟩ := A3.c2
      have ka := fun o => (A3.alloc o).cell 0
      have kb := fun o => (A3.alloc o).cell 1
      have HA := hideB2 A3
      have HB := hideB2 hbw
      clear A3 hbw
      go_cut [5] (fun t wc => BufF w wc t (L ++ [(d, s)]))
      case first =>
        go_region_law (first
          | (refine step_fapp rfl (.tmp 17) (.tmp 19) rfl _ _ _ rfl (by first | exact hbuf0.alloc _ | exact hbuf0) _ d s rfl (by first | exact Blk.new _ _ _ | exact (Blk.new w3 _ _).drew.later hbuf0.below) hwl ?_; intro v5 W5 hbuf5)
          | (go_simp; go_at_call 13; refine (HW.out _ ?_).mono ?_; (first | exact HV3.out.later (Below.refl _ w3).drew | exact HV3.out.later (below_a1 w3 _).drew); rintro e w4 ⟨v4, rfl, hbuf0⟩; (have hu : w4.cell? ⟨w.heap.size, 0, none⟩ = some (.string d) ∧ w4.cell? ⟨w.heap.size, 1, none⟩ = some (.string s) := by first | exact (HA.out.drew.later hbuf0.below).c2 | exact ((HA.out.alloc _).drew.later hbuf0.below).c2); obtain ⟨u0, u1⟩ := hu; simp only []))
        all_goals
          go_wp2_with fail
          go_meet
          first | exact hbuf5.base (below_then HB.out (Below.refl _ w3).drew) | exact hbuf5.base (below_then HB.out (below_a1 w3 _).drew)
      case rest =>
        have hbuf := hcut
        obtain ⟨a5, c5, rfl⟩ := hbuf.form
        by_cases h20 : L.length < 20
        · have HE2 := hideB2 (HE.out.trans (if_pos h20))
          have HBF := hideB2 hbuf
          rw [List.length_append, List.length_singleton]
          clear hcut hbuf HE
          go_wp2
          go_ret
          exact ⟨_, rfl, by rw [HE2.out]; have := HBF.out; rw [List.length_append, List.length_singleton] at this; exact this⟩
        · have HE2 := hideB2 (HE.out.trans (if_neg h20))
          have HBB := hideB2 hbuf.below
          rw [List.length_append, List.length_singleton]
          clear hcut hbuf HE
          go_wp2
          go_ret
          exact ⟨_, rfl, by rw [HE2.out]; exact (BufF.start w).later HBB.out⟩
end Go.Proofs.YtmhohponikolfaaDoor
namespace Go.Proofs.YtmhohponikolfaaDoor
set_option linter.unusedVariables false
set_option linter.unusedSimpArgs false
open Go.RowKit

/-- The code that came in: nil, or a row of bytes below block p. -/
def CodeRow (w : World) (p : Nat) (a : Option Addr) (len : Nat) : Prop :=
  len = 0 ∨ ∃ b off, a = some ⟨b, off, none⟩ ∧ b < p ∧ ∀ i, i < len → ∃ z : Nat, z ≤ 255 ∧ w.cell? ⟨b, off + i, none⟩ = some (.int .u8 (z : Int))
/-- Block p is the cursor. -/
def Drw (w : World) (p : Nat) : Prop :=
  ∃ (a : Option Addr) (len cap i : Nat) (h : Int), w.heap[p]? = some (.cells #[.slice a len cap, .int .i64 (i : Int), .int .i64 h] 53) ∧ CodeRow w p a len ∧ i ≤ len ∧ len ≤ maxLen
/-- All blocks of w but p stand in w' as they stood. -/
def Kp (p : Nat) (w w' : World) : Prop := w.grownBy w' (some p)

theorem Kp.refl (p : Nat) (w : World) : Kp p w w := ⟨rfl, rfl, rfl, Nat.le_refl _, fun _ _ _ => rfl⟩
theorem Kp.trans {p : Nat} {a b c : World} (h : Kp p a b) (k : Kp p b c) : Kp p a c := World.grownBy.trans h k
theorem Kp.size {p : Nat} {w w' : World} (h : Kp p w w') : w.heap.size ≤ w'.heap.size := World.grownBy.size h
theorem Kp.drew {p : Nat} {a w : World} (h : Kp p a w) : Kp p a w.drew := h.trans (⟨rfl, rfl, rfl, Nat.le_refl _, fun _ _ _ => rfl⟩ : w.grownBy w.drew (some p))
theorem Kp.drewN {p : Nat} {a w : World} (h : Kp p a w) (n : Nat) : Kp p a (w.drewN n) := h.trans (⟨rfl, rfl, rfl, Nat.le_refl _, fun _ _ _ => rfl⟩ : w.grownBy (w.drewN n) (some p))
theorem Kp.alloc {p : Nat} {a w : World} (h : Kp p a w) (o : Obj) : Kp p a (w.alloc o) := h.trans (World.grownBy_alloc w o _)
theorem Kp.setCell {p : Nat} {a w : World} (h : Kp p a w) (off : Nat) (u : Value) : Kp p a (w.setCell ⟨p, off, none⟩ u) :=
  h.trans ⟨rfl, rfl, rfl, by simp [World.setCell], fun k _ hne => Below.heap_setCell _ _ _ _ (fun e => hne (by simp at e; rw [e]))⟩
theorem Kp.below {p : Nat} {w w' : World} (h : Kp p w w') {B : Nat} (hB : B ≤ p) (hp : p ≤ w.heap.size) : Below B w w' :=
  ⟨h.os, h.tape, h.output, World.grownBy.size h, fun k hk => h.block k (by omega) (fun e => by injection e with e; omega)⟩
theorem Kp.of_below {p : Nat} {w w' : World} (h : Below w.heap.size w w') : Kp p w w' := ⟨h.os, h.tape, h.output, h.size, fun k hk _ => h.block k hk⟩
theorem CodeRow.kept {w w' : World} {p : Nat} {a : Option Addr} {len : Nat} (h : CodeRow w p a len) (hb : ∀ k, k < p → w'.heap[k]? = w.heap[k]?) : CodeRow w' p a len := by
  rcases h with h | ⟨b, off, h1, h2, h3⟩
  · exact Or.inl h
  · refine Or.inr ⟨b, off, h1, h2, fun i hi => ?_⟩
    obtain ⟨z, hz, hc⟩ := h3 i hi
    exact ⟨z, hz, (World.cell?_of_block (w := w) (hb b h2)).trans hc⟩
theorem CodeRow.later {w w' : World} {a : Option Addr} {len : Nat} (h : CodeRow w w.heap.size a len) (hb : Below w.heap.size w w') : CodeRow w' w'.heap.size a len := by
  rcases h with h | ⟨b, off, h1, h2, h3⟩
  · exact Or.inl h
  · refine Or.inr ⟨b, off, h1, Nat.lt_of_lt_of_le h2 hb.size, fun i hi => ?_⟩
    obtain ⟨z, hz, hc⟩ := h3 i hi
    exact ⟨z, hz, cell_later hb hc⟩
theorem Drw.lt {w : World} {p : Nat} (h : Drw w p) : p < w.heap.size := by
  obtain ⟨a, len, cap, i, hh, h1, _⟩ := h
  rcases Nat.lt_or_ge p w.heap.size with h | h
  · exact h
  · rw [Array.getElem?_eq_none h] at h1; cases h1
theorem Drw.kept {w w' : World} {p : Nat} (h : Drw w p) (hb : Below w.heap.size w w') : Drw w' p := by
  have hl := h.lt
  obtain ⟨a, len, cap, i, hh, h1, h2, h3⟩ := h
  exact ⟨a, len, cap, i, hh, (hb.block p hl).trans h1, h2.kept (fun k hk => hb.block k (by omega)), h3⟩
theorem Drw.alloc {w : World} {p : Nat} (h : Drw w p) (o : Obj) : Drw (w.alloc o) p := h.kept ((Below.refl _ w).alloc (Nat.le_refl _) o)
theorem Drw.drew {w : World} {p : Nat} (h : Drw w p) : Drw w.drew p := h.kept (Below.refl _ w).drew

theorem Drw.drewN {w : World} {p : Nat} (h : Drw w p) (n : Nat) : Drw (w.drewN n) p := h.kept (⟨rfl, rfl, rfl, Nat.le_refl _, fun _ _ => rfl⟩ : Below w.heap.size w (w.drewN n))
theorem and255 (y : Int) : ∃ n : Nat, n ≤ 255 ∧ bits .and .i64 y 255 = (n : Int) := by
  refine ⟨((BitVec.ofInt 64 y) &&& (BitVec.ofInt 64 255)).toNat, ?_, ?_⟩
  · rw [BitVec.toNat_and]
    exact Nat.and_le_right
  · show IntKind.i64.wrap _ = _
    have h : (((BitVec.ofInt 64 y) &&& (BitVec.ofInt 64 255)).toNat : Int) ≤ 255 := by
      have : ((BitVec.ofInt 64 y) &&& (BitVec.ofInt 64 255)).toNat ≤ 255 := by rw [BitVec.toNat_and]; exact Nat.and_le_right
      omega
    rw [IntKind.wrap_i64]
    show ((((BitVec.ofInt 64 y) &&& (BitVec.ofInt 64 255)).toNat : Int) + 9223372036854775808) % 18446744073709551616 - 9223372036854775808 = _
    omega
theorem ret255 (y : Int) : ∃ n : Nat, n ≤ 255 ∧ Ending.returned (.int .i64 (bits .and .i64 y 255)) = .returned (.int .i64 (n : Int)) := by
  obtain ⟨n, hn, he⟩ := and255 y
  exact ⟨n, hn, by rw [he]⟩
/-- A row of bytes that grows while numbers are drawn. -/
structure DBuf (p : Nat) (w0 w : World) (v : Value) (l : List UInt8) : Prop where
  kp : Kp p w0 w
  own : w.ownsRow w0.heap.size 5 1 v l.length (l.map c8)
  st : Drw w p
  lt : p < w0.heap.size
theorem DBuf.start {p : Nat} {w : World} (h : Drw w p) : DBuf p w w (.slice none 0 0) [] := ⟨Kp.refl _ _, World.ownsRow_nil _ _ _ _, h, h.lt⟩
theorem DBuf.draw {p : Nat} {w0 w w' : World} {v : Value} {l : List UInt8} (h : DBuf p w0 w v l) (hk : Kp p w w') (hd : Drw w' p) : DBuf p w0 w' v l := by
  refine ⟨h.kp.trans hk, h.own.kept hk ?_, hd, h.lt⟩
  cases hv : v.ownBlock with
  | none => exact Or.inl rfl
  | some g =>
    right
    intro e
    injection e with e
    have := (h.own.lt g hv).1
    have := h.lt
    omega
theorem DBuf.text {p : Nat} {w0 w : World} {v : Value} {l : List UInt8} (h : DBuf p w0 w v l) : (convert 22 9 v).run Tryd.prog w = .ok (.string ⟨l.toArray⟩) w := by
  have hl : l.map (fun b => UInt8.ofNat ((b.toNat : Int)).toNat) = l := by
    conv => rhs; rw [← List.map_id l]
    apply List.map_congr_left
    intro b _
    simp
  rcases h.own.2 with ⟨h1, h2⟩ | ⟨g, cap, cur, h1, _, hh, _, _, _, ht⟩
  · have : l = [] := List.length_eq_zero_iff.1 h2
    subst this
    rw [h1]
    exact run_convert_bytes_nil (P := Tryd.prog) w 22 5 Tryd.underlying22 Tryd.underlying5 0 0 9 Tryd.underlying9
  · subst h1
    have hc : ∀ i, i < l.length → w.cell? ⟨g, 0 + i, none⟩ = some (.int .u8 ((l.map fun b => (b.toNat : Int)).getD i 0)) := by
      intro i hi
      have := h.own.cells (g := g) rfl i (.int .u8 ((l[i].toNat : Int))) (by simp [c8, List.getElem?_eq_getElem hi])
      rw [Addr.add_lit] at this
      rw [this]
      simp [List.getD, List.getElem?_eq_getElem hi]
    have := run_convert_bytes_arg (P := Tryd.prog) w 22 5 Tryd.underlying22 Tryd.underlying5 g 0 l.length cap (l.map fun b => (b.toNat : Int)) (by simp) hc 9 Tryd.underlying9
    rw [this]
    simp only [strOfNums, List.map_map]
    exact congrArg (fun x : Array UInt8 => Result.ok (Value.string ⟨x⟩) w) (congrArg List.toArray hl)
theorem wp_dapp {ops : Array Oper} {rest : List Oper} {o : Oper} {a : Act} {Q : Exit → Act → World → Prop} {p : Nat} {w0 W : World} (hgd : o.guard = none) (s x : Operand)
    (ho : o.op = .call { callee := .builtin .append, args := #[s, x], argTypes := #[22, 22] }) (v : Value) (l : List UInt8) (hs : a.eval s = v) (hbuf : DBuf p w0 W v l)
    (n : Int) (y : UInt8) (hy : n = (y.toNat : Int)) (hx : a.eval x = .slice (some ⟨W.heap.size, 0, none⟩) 1 1) (hlen : l.length ≤ 1099511627776)
    (h : ∀ v' W', DBuf p w0 W' v' (l ++ [y]) → wpList Tryd.prog ops Q rest (a.put o.dst v') W') :
    wpList Tryd.prog ops Q (o :: rest) a (W.alloc (.cells #[.int .u8 n] 5)) := by
  subst hy
  obtain ⟨i0, hi, hz0, hz1, hz2⟩ := info_parts Tryd.infoU8
  have hsz := hbuf.kp.size
  refine wpList_append_own _ hgd s x 22 ho w0.heap.size 5 i0 (.int .u8 0) 1 1 Tryd.underlying22 hi hz0 hz1 hz2 rfl (by decide) v l.length (l.map c8) hs (hbuf.own.alloc _) ⟨W.heap.size, 0, none⟩ 1 1 [c8 y] hx rfl (cell_one_new _ _ _) (fun u hu => by simp at hu; subst hu; rfl) (by unfold maxLen; omega) (by omega) (by simp; omega) ?_
  intro v' W' hown hgrow _
  have hne : ∀ k, v.ownBlock = some k → w0.heap.size ≤ k := fun k hk => (hbuf.own.lt k hk).1
  have hlt := hbuf.lt
  have hstlt := hbuf.st.lt
  refine h v' W' ⟨?_, ?_, ?_, hlt⟩
  · refine ⟨hgrow.os.trans (hbuf.kp.alloc _).os, hgrow.tape.trans (hbuf.kp.alloc _).tape, hgrow.output.trans (hbuf.kp.alloc _).output, Nat.le_trans (hbuf.kp.alloc _).size hgrow.size, fun k hk hkne => ?_⟩
    refine (hgrow.block k ?_ ?_).trans ((hbuf.kp.alloc _).block k hk hkne)
    · simp; omega
    · intro e; have := hne k e.symm; omega
  · rw [List.length_append, List.length_singleton, List.map_append]
    exact hown
  · obtain ⟨a1, len, cap, i, hh, h1, h2, h3⟩ := hbuf.st
    have old : ∀ k, k < w0.heap.size → W'.heap[k]? = W.heap[k]? := by
      intro k hk
      rw [hgrow.block k (by simp; omega) (fun e => by have := hne k e.symm; omega)]
      exact Below.heap_alloc _ _ _ (by omega)
    exact ⟨a1, len, cap, i, hh, (old p hlt).trans h1, h2.kept (fun k hk => old k (by omega)), h3⟩
end Go.Proofs.YtmhohponikolfaaDoor
namespace Go.Proofs.YtmhohponikolfaaDoor
set_option linter.unusedVariables false
set_option linter.unusedSimpArgs false
open Go.RowKit
theorem blk_kp {p : Nat} {w w' : World} {b : Nat} {c : Array Value} {t : TypeId} (h : Blk w b c t) (k : Kp p w w') (hne : b ≠ p) : Blk w' b c t := by
  unfold Blk at *
  rw [k.block b (Array.getElem?_eq_some_iff.1 h).1 (fun e => by injection e with e; exact hne e)]
  exact h
end Go.Proofs.YtmhohponikolfaaDoor
namespace Go.Proofs.YtmhohponikolfaaDoor
set_option linter.unusedVariables false
set_option linter.unusedSimpArgs false
open Go.RowKit

theorem drw_cells {w : World} {p : Nat} {a : Option Addr} {len cap i : Nat} {h : Int} (h1 : w.heap[p]? = some (.cells #[.slice a len cap, .int .i64 (i : Int), .int .i64 h] 53)) :
    w.cell? ⟨p, 0, none⟩ = some (.slice a len cap) ∧ w.cell? ⟨p, 1, none⟩ = some (.int .i64 (i : Int)) ∧ w.cell? ⟨p, 2, none⟩ = some (.int .i64 h) ∧ w.frozen? ⟨p, 1, none⟩ = false ∧ w.frozen? ⟨p, 2, none⟩ = false := by
  simp [World.cell?, World.frozen?, h1]
theorem heap_setCell_same {w : World} {p : Nat} {c : Array Value} {t : TypeId} {fr : Nat × Nat} (h : w.heap[p]? = some (.cells c t fr)) (j : Nat) (u : Value) :
    (w.setCell ⟨p, j, none⟩ u).heap[p]? = some (.cells (c.setIfInBounds j u) t fr) := by
  simp [World.setCell, Array.getElem?_modify, h]
theorem drw_set {w : World} {p : Nat} {a : Option Addr} {len cap i : Nat} {h H : Int} (h1 : w.heap[p]? = some (.cells #[.slice a len cap, .int .i64 (i : Int), .int .i64 h] 53)) (hcode : CodeRow w p a len) (hi : i ≤ len) (hlen : len ≤ maxLen) :
    Kp p w (w.setCell ⟨p, 2, none⟩ (.int .i64 H)) ∧ Drw (w.setCell ⟨p, 2, none⟩ (.int .i64 H)) p := by
  refine ⟨(Kp.refl p w).setCell 2 _, a, len, cap, i, H, ?_, hcode.kept (fun k hk => Below.heap_setCell _ _ _ _ (by simp; omega)), hi, hlen⟩
  rw [heap_setCell_same h1]; rfl
theorem drw_set2 {w : World} {p : Nat} {a : Option Addr} {len cap i : Nat} {h H : Int} (h1 : w.heap[p]? = some (.cells #[.slice a len cap, .int .i64 (i : Int), .int .i64 h] 53)) (hcode : CodeRow w p a len) (hi : i < len) (hlen : len ≤ maxLen) :
    Kp p w ((w.setCell ⟨p, 2, none⟩ (.int .i64 H)).setCell ⟨p, 1, none⟩ (.int .i64 ((i : Int) + 1))) ∧ Drw ((w.setCell ⟨p, 2, none⟩ (.int .i64 H)).setCell ⟨p, 1, none⟩ (.int .i64 ((i : Int) + 1))) p := by
  refine ⟨((Kp.refl p w).setCell 2 _).setCell 1 _, a, len, cap, i + 1, H, ?_, hcode.kept (fun k hk => ?_), hi, hlen⟩
  · rw [heap_setCell_same (heap_setCell_same h1 2 _) 1 _]; rfl
  · rw [Below.heap_setCell _ _ _ _ (by simp; omega), Below.heap_setCell _ _ _ _ (by simp; omega)]
set_option maxHeartbeats 1000000 in
theorem l1Byte_any (p : Nat) (w : World) (hd : Drw w p) :
    Calls Tryd.prog 33 #[.pointer (some ⟨p, 0, none⟩)] w fun e w' => (∃ n : Nat, n ≤ 255 ∧ e = .returned (.int .i64 (n : Int))) ∧ Kp p w w' ∧ Drw w' p := by
  obtain ⟨a, len, cap, i, h, h1, hcode, hi, hlen⟩ := hd
  obtain ⟨c0, c1, c2, f1, f2⟩ := drw_cells h1
  have hlen' := hlen
  unfold maxLen at hlen'
  have S1 : Hid (∀ H : Int, Kp p w (w.setCell ⟨p, 2, none⟩ (.int .i64 H)) ∧ Drw (w.setCell ⟨p, 2, none⟩ (.int .i64 H)) p) := fun H => drw_set h1 hcode hi hlen
  by_cases hlt : i < len
  · rcases hcode with hl0 | ⟨b, off, rfl, hbp, hc⟩
    · omega
    · have S2 : Hid (∀ H : Int, Kp p w ((w.setCell ⟨p, 2, none⟩ (.int .i64 H)).setCell ⟨p, 1, none⟩ (.int .i64 ((i : Int) + 1))) ∧ Drw ((w.setCell ⟨p, 2, none⟩ (.int .i64 H)).setCell ⟨p, 1, none⟩ (.int .i64 ((i : Int) + 1))) p) := fun H => drw_set2 h1 (Or.inr ⟨b, off, rfl, hbp, hc⟩) hlt hlen
      obtain ⟨z, hz, hcz⟩ := hc i hlt
      have hltI : (i : Int) < (len : Int) := by omega
      have hne : b ≠ p := by omega
      have hne2 : p ≠ b := by omega
      have hlt0 : (0 : Int) ≤ (i : Int) := by omega
      clear hc h1
      go_enter Tryd.func33, Tryd.ntmps33
      go_wp2
      go_quiet (fail)
      generalize wrap64 (wrap64 (h * 6364136223846793005) + 1442695040888963407) = H at *
      go_wp2
      go_quiet (fail)
      go_wp2
      go_quiet (fail)
      go_wp2
      go_ret
      exact ⟨ret255 _, (S2.out H).1.drewN _, (S2.out H).2.drewN _⟩
  · have hltI : decide ((i : Int) < (len : Int)) = false := by simp; omega
    clear hcode h1
    go_enter Tryd.func33, Tryd.ntmps33
    go_wp2
    go_quiet (fail)
    generalize wrap64 (wrap64 (h * 6364136223846793005) + 1442695040888963407) = H at *
    go_wp2
    go_quiet (fail)
    go_wp2
    go_ret
    exact ⟨ret255 _, by repeat (first | exact (S1.out H).1 | refine Kp.drewN ?_ _), by repeat (first | exact (S1.out H).2 | refine Drw.drewN ?_ _)⟩
end Go.Proofs.YtmhohponikolfaaDoor
namespace Go.Proofs.YtmhohponikolfaaDoor
set_option linter.unusedVariables false
set_option linter.unusedSimpArgs false
open Go.RowKit

set_option maxHeartbeats 1000000 in
theorem l1Below_any (p : Nat) (n : Int) (w : World) (hd : Drw w p) (hn : n ≤ 1099511627776) :
    Calls Tryd.prog 30 #[.pointer (some ⟨p, 0, none⟩), .int .i64 n] w fun e w' => (∃ m : Nat, (0 < n → (m : Int) < n) ∧ (n ≤ 0 → m = 0) ∧ m ≤ 4294967295 ∧ e = .returned (.int .i64 (m : Int))) ∧ Kp p w w' ∧ Drw w' p := by
  by_cases h0 : n ≤ 0
  · go_enter Tryd.func30, Tryd.ntmps30
    go_wp2
    go_ret
    exact ⟨⟨0, fun h => by omega, fun _ => rfl, by omega, rfl⟩, Kp.refl _ _, hd⟩
  · by_cases h1 : n ≤ 256
    · go_enter Tryd.func30, Tryd.ntmps30
      go_wp2_with fail
      refine (l1Byte_any p _ hd).mono ?_
      rintro e w1 ⟨⟨n1, hn1, rfl⟩, hk1, hd1⟩
      obtain ⟨q, hq⟩ : ∃ q : Nat, (n1 : Int) % n = (q : Int) := ⟨((n1 : Int) % n).toNat, by have := Int.emod_nonneg (n1 : Int) (show n ≠ 0 by omega); omega⟩
      have hlt := Int.emod_lt_of_pos (n1 : Int) (show 0 < n by omega)
      have hQ : Hid ((n1 : Int) % n = (q : Int)) := hq
      have hz : (n == 0) = false := by rw [beq_eq_false_iff_ne]; omega
      go_wp2
      go_ret
      exact ⟨⟨q, fun _ => by rw [← hQ.out]; exact hlt, fun h => by omega, by have := hQ.out; omega, by first | rfl | exact ret_int hQ.out.symm⟩, hk1, hd1⟩
    · go_enter Tryd.func30, Tryd.ntmps30
      go_wp2_with fail
      refine (l1Byte_any p _ hd).mono ?_
      rintro e w1 ⟨⟨n1, hn1, rfl⟩, hk1, hd1⟩
      go_wp2_with fail
      refine (l1Byte_any p _ hd1).mono ?_
      rintro e w2 ⟨⟨n2, hn2, rfl⟩, hk2, hd2⟩
      go_wp2_with fail
      refine (l1Byte_any p _ hd2).mono ?_
      rintro e w3 ⟨⟨n3, hn3, rfl⟩, hk3, hd3⟩
      go_wp2_with fail
      refine (l1Byte_any p _ hd3).mono ?_
      rintro e w4 ⟨⟨n4, hn4, rfl⟩, hk4, hd4⟩
      have hlt := Int.emod_lt_of_pos ((n1 : Int) * 16777216 + (n2 : Int) * 65536 + (n3 : Int) * 256 + (n4 : Int)) (show 0 < n by omega)
      have hge := Int.emod_nonneg ((n1 : Int) * 16777216 + (n2 : Int) * 65536 + (n3 : Int) * 256 + (n4 : Int)) (show n ≠ 0 by omega)
      have hle : ((n1 : Int) * 16777216 + (n2 : Int) * 65536 + (n3 : Int) * 256 + (n4 : Int)) % n ≤ 4294967295 := by
        have hX : 0 ≤ (n1 : Int) * 16777216 + (n2 : Int) * 65536 + (n3 : Int) * 256 + (n4 : Int) := by omega
        have hY : (n1 : Int) * 16777216 + (n2 : Int) * 65536 + (n3 : Int) * 256 + (n4 : Int) ≤ 4294967295 := by omega
        generalize (n1 : Int) * 16777216 + (n2 : Int) * 65536 + (n3 : Int) * 256 + (n4 : Int) = X at *
        have h5 := Int.emod_add_mul_ediv X n
        have h6 : 0 ≤ n * (X / n) := Int.mul_nonneg (by omega) (Int.ediv_nonneg hX (by omega))
        omega
      obtain ⟨q, hq⟩ : ∃ q : Nat, ((n1 : Int) * 16777216 + (n2 : Int) * 65536 + (n3 : Int) * 256 + (n4 : Int)) % n = (q : Int) := ⟨(((n1 : Int) * 16777216 + (n2 : Int) * 65536 + (n3 : Int) * 256 + (n4 : Int)) % n).toNat, by omega⟩
      have hQ : Hid (((n1 : Int) * 16777216 + (n2 : Int) * 65536 + (n3 : Int) * 256 + (n4 : Int)) % n = (q : Int)) := hq
      have hz : (n == 0) = false := by rw [beq_eq_false_iff_ne]; omega
      go_wp2
      go_ret
      exact ⟨⟨q, fun _ => by rw [← hQ.out]; exact hlt, fun h => by omega, by have := hQ.out; omega, by first | rfl | exact ret_int hQ.out.symm⟩, ((hk1.trans hk2).trans hk3).trans hk4, hd4⟩
theorem mem_snoc {l m : List UInt8} {y : UInt8} (h : ∀ x ∈ l, x ∈ m) (hy : y ∈ m) : ∀ x ∈ l ++ [y], x ∈ m := by
  intro x hx
  rcases List.mem_append.1 hx with h1 | h1
  · exact h x h1
  · simp at h1
    subst h1
    exact hy
set_option maxHeartbeats 1000000 in
theorem l1Once_any (p : Nat) (n : Int) (w : World) (hd : Drw w p) (hn : n ≤ 1099511627776) :
    Calls Tryd.prog 18 #[.pointer (some ⟨p, 0, none⟩), .int .i64 n] w fun e w' => (∃ b : Bool, e = .returned (.bool b)) ∧ Kp p w w' ∧ Drw w' p := by
  go_enter Tryd.func18, Tryd.ntmps18
  go_wp2_with fail
  refine (l1Below_any p n _ hd hn).mono ?_
  rintro e w1 ⟨⟨m, _, _, _, rfl⟩, hk1, hd1⟩
  go_wp2
  go_ret
  exact ⟨⟨_, rfl⟩, hk1, hd1⟩
set_option maxHeartbeats 1000000 in
theorem l1of_any (p n : Nat) (s : ByteArray) (w : World) (hd : Drw w p) (hn : n ≤ 1048576) (hs0 : 0 < s.size) (hs1 : s.size ≤ 1048576) :
    Calls Tryd.prog 32 #[.pointer (some ⟨p, 0, none⟩), .int .i64 (n : Int), .string s] w fun e w' => (∃ l : List UInt8, l.length = n ∧ (∀ x ∈ l, x ∈ s.data.toList) ∧ e = .returned (.string ⟨l.toArray⟩)) ∧ Kp p w w' ∧ Drw w' p := by
  go_enter Tryd.func32, Tryd.ntmps32
  go_wp2_with fail
  go_loopw [7, 8] (fun v i wr => ∃ (l : List UInt8), l.length ≤ n ∧ i = .int .i64 (l.length : Int) ∧ (∀ x ∈ l, x ∈ s.data.toList) ∧ DBuf p w wr v l) (fun _ i _ => n - (intOf i).toNat)
  case atStart => exact ⟨[], by simp, rfl, (by intro x hx; cases hx), DBuf.start hd⟩
  case round =>
    obtain ⟨l, hl, rfl, hmem, hbuf⟩ := hrel
    have Hmem : Hid (∀ x ∈ l, x ∈ s.data.toList) := hmem
    clear hmem hd
    by_cases hlt : l.length < n
    · go_wp2_with fail
      refine (l1Below_any p (s.size : Int) _ hbuf.st (by omega)).mono ?_
      rintro e w1 ⟨⟨m, hm, _, _, rfl⟩, hk1, hd1⟩
      have hb1 := hbuf.draw hk1 hd1
      have hms : m < s.size := by have := hm (by omega); omega
      clear hm hbuf
      have HX : Hid (s[m] ∈ s.data.toList) := by
        show s.data[m] ∈ s.data.toList
        simp
      go_wp2_with (at_builtin; refine wp_dapp rfl (.tmp 14) (.tmp 21) rfl _ _ rfl hb1 _ s[m] rfl rfl (by omega) ?_; intro v2 W2 hbuf2)
      go_roundw
      case rel => exact ⟨l ++ [s[m]], by simp; omega, by simp, mem_snoc Hmem.out HX.out, hbuf2⟩
      case measure => simp [intOf]; omega
    · have kb := hbuf.text
      go_wp2
      go_ret
      exact ⟨⟨l, by omega, Hmem.out, rfl⟩, hbuf.kp, hbuf.st⟩
set_option maxRecDepth 100000 in
set_option maxHeartbeats 1000000 in
theorem l1New_any (a : Option Addr) (len cap : Nat) (w : World) (hcode : CodeRow w w.heap.size a len) (hlen : len ≤ maxLen) :
    Calls Tryd.prog 15 #[.slice a len cap] w fun e w' => e = .returned (.pointer (some ⟨w.heap.size, 0, none⟩)) ∧ Below w.heap.size w w' ∧ Drw w' w.heap.size := by
  go_enter Tryd.func15, Tryd.ntmps15
  go_wp2_with fail
  go_loop [3, 4] (fun h i => ∃ (k : Nat) (x : Int), k ≤ len ∧ i = .int .i64 (k : Int) ∧ h = .int .i64 x) (fun _ i => len - (intOf i).toNat)
  case atStart => exact ⟨0, _, Nat.zero_le _, rfl, rfl⟩
  case round =>
    obtain ⟨k, x, hk, rfl, rfl⟩ := hrel
    have Hcode : Hid (CodeRow w w.heap.size a len) := hcode
    by_cases hlt : k < len ∧ k < 4000
    · obtain ⟨hl1, hl2⟩ := hlt
      rcases hcode with hl0 | ⟨b, off, rfl, hbp, hc⟩
      · omega
      · obtain ⟨z, hz, hcz⟩ := hc k hl1
        have hI : (k : Int) < (len : Int) := by omega
        clear hc
        go_wp2
        go_round
        case rel => exact ⟨k + 1, _, by omega, by go_num, rfl⟩
        case measure => simp [intOf]; omega
    · have hend : Hid (Drw (w.alloc (.cells #[.slice a len cap, .int .i64 0, .int .i64 x] 53)) w.heap.size) :=
        ⟨a, len, cap, 0, x, heap_alloc_new w _, hcode.kept (fun k hk => Below.heap_alloc _ _ _ hk), Nat.zero_le _, hlen⟩
      have hway : (¬ k < len) ∨ (k < len ∧ ¬ k < 4000 ∧ decide ((k : Int) < 4000) = false) := by
        by_cases h : k < len
        · right; exact ⟨h, by omega, by simp; omega⟩
        · left; exact h
      clear hcode hlt
      rcases hway with h | ⟨h, h', h''⟩
      · have hd : decide ((k : Int) < (len : Int)) = false := by simp; omega
        go_wp2
        go_ret
        exact ⟨rfl, (Below.refl _ _).alloc (Nat.le_refl _) _, hend.out⟩
      · have hI : (k : Int) < (len : Int) := by omega
        go_wp2
        go_ret
        exact ⟨rfl, (Below.refl _ _).alloc (Nat.le_refl _) _, hend.out⟩
end Go.Proofs.YtmhohponikolfaaDoor
namespace Go.Proofs.YtmhohponikolfaaDoor
set_option linter.unusedVariables false
set_option linter.unusedSimpArgs false
open Go.RowKit

theorem conv1 {P : Program} (src e dst : TypeId) (hs : P.underlying src = some (.slice e)) (he : P.underlying e = some (.int .u8)) (hd : P.underlying dst = some .string) (w : World) (b cap : Nat) (x : Int) (hc : w.cell? ⟨b, 0, none⟩ = some (.int .u8 x)) :
    (convert src dst (.slice (some ⟨b, 0, none⟩) 1 cap)).run P w = .ok (.string ⟨#[UInt8.ofNat x.toNat]⟩) w :=
  run_convert_bytes_arg (P := P) w src e hs he b 0 1 cap [x] rfl (fun i hi => by obtain rfl : i = 0 := by omega
                                                                                 exact hc) dst hd
theorem Kp.cell {p : Nat} {w w' : World} (h : Kp p w w') {a : Addr} {v : Value} (hc : w.cell? a = some v) (hne : a.block ≠ p) : w'.cell? a = some v :=
  World.grownBy.cell h hc (fun e => hne (by injection e))
theorem Kp.of_drew {p : Nat} {w w' : World} (h : Kp p w.drew w') : Kp p w w' := (Kp.refl p w).drew.trans h
theorem bend_size (s : ByteArray) (a : Nat) (x : UInt8) (ha : a ≤ s.size) : (s.extract 0 a ++ ⟨#[x]⟩ ++ s.extract a s.size).size ≤ s.size + 1 := by
  have e : (ByteArray.mk #[x]).size = 1 := rfl
  rw [ByteArray.size_append, ByteArray.size_append, ByteArray.size_extract, ByteArray.size_extract, e]
  omega
theorem Kp.setNew {p : Nat} {a w : World} (h : Kp p a w) {g : Nat} (hg : a.heap.size ≤ g) (off : Nat) (u : Value) : Kp p a (w.setCell ⟨g, off, none⟩ u) :=
  ⟨h.os, h.tape, h.output, by have := h.size; simpa [World.setCell] using this, fun k hk hne => (Below.heap_setCell _ _ _ _ (by simp; omega)).trans (h.block k hk hne)⟩
theorem Drw.setNew {w : World} {p : Nat} (h : Drw w p) {g : Nat} (hg : p < g) (off : Nat) (u : Value) : Drw (w.setCell ⟨g, off, none⟩ u) p := by
  obtain ⟨a, len, cap, i, hh, h1, h2, h3⟩ := h
  exact ⟨a, len, cap, i, hh, (Below.heap_setCell _ _ _ _ (by simp; omega)).trans h1, h2.kept (fun k hk => Below.heap_setCell _ _ _ _ (by simp; omega)), h3⟩
theorem Row8.kp {p : Nat} {w w' : World} {b : Nat} {xs : List Int} (h : Row8 w b xs) (hk : Kp p w w') (hne : b ≠ p) : Row8 w' b xs :=
  ⟨fun j hj => hk.cell (h.cell j hj) hne, fun j hj => (World.frozen?_of_block (w := w) (hk.block b h.lt (fun e => hne (by injection e)))).trans (h.free j hj), Nat.lt_of_lt_of_le h.lt hk.size⟩

set_option maxHeartbeats 2000000 in
theorem l1bend_any (p : Nat) (s : ByteArray) (w : World) (hd : Drw w p) (hs : s.size ≤ 1048576) :
    Calls Tryd.prog 19 #[.pointer (some ⟨p, 0, none⟩), .string s] w fun e w' => (∃ t : ByteArray, t.size ≤ s.size + 1 ∧ e = .returned (.string t)) ∧ Kp p w w' ∧ Drw w' p := by
  have kb := fun (w : World) (b cap : Nat) (x : Int) => conv1 (P := Tryd.prog) 22 5 9 Tryd.underlying22 Tryd.underlying5 Tryd.underlying9 w b cap x
  go_enter Tryd.func19, Tryd.ntmps19
  go_wp2_with fail
  refine (l1Below_any p ((s.size : Int) + 1) _ hd (by omega)).mono ?_
  rintro e w1 ⟨⟨at', hat, _, _, rfl⟩, hk1, hd1⟩
  have hat1 : at' ≤ s.size := by have := hat (by omega); omega
  clear hat hd
  go_wp2_with fail
  refine (l1Below_any p 4 _ hd1 (by omega)).mono ?_
  rintro e w2 ⟨⟨m, hm, _, _, rfl⟩, hk2, hd2⟩
  have hm4 : m < 4 := by have := hm (by omega); omega
  have hk := hk1.trans hk2
  clear hm hd1 hk1 hk2
  by_cases h0 : m = 0
  · subst h0
    go_wp2_with fail
    go_region_with (go_at_call 33; refine (l1Byte_any p _ hd2.drew).mono ?_; rintro e w3 ⟨⟨z, hz, rfl⟩, hk3, hd3⟩)
    all_goals
      go_wp2
      go_ret
      refine ⟨⟨_, ?_, rfl⟩, ?_, ?_⟩
      · exact bend_size s at' _ hat1
      · exact (hk.trans (Kp.of_drew hk3)).alloc _
      · exact hd3.alloc _
  · have g0 : ((m : Int) == 0) = false := by rw [beq_eq_false_iff_ne]; omega
    by_cases h1 : m = 1
    · subst h1
      clear g0
      go_wp2
      go_ret
      refine ⟨⟨_, ?_, rfl⟩, hk, hd2⟩
      simp [ByteArray.size_extract]; omega
    · have g1 : ((m : Int) == 1) = false := by rw [beq_eq_false_iff_ne]; omega
      by_cases h2 : m = 2 ∧ at' < s.size
      · obtain ⟨rfl, hlt⟩ := h2
        clear g0 g1 h0 h1
        have hI : (at' : Int) < (s.size : Int) := by omega
        go_wp2
        go_quiet (fail)
        go_wp2
        go_ret
        refine ⟨⟨_, ?_, rfl⟩, hk.drewN _, hd2.drewN _⟩
        simp [ByteArray.size_append, ByteArray.size_extract]; omega
      · have hway : (m = 2 ∧ ¬ at' < s.size) ∨ (m = 3 ∧ ¬ at' < s.size) ∨ (m = 3 ∧ at' < s.size) := by omega
        clear h2
        rcases hway with ⟨rfl, hlt⟩ | ⟨rfl, hlt⟩ | ⟨rfl, hlt⟩
        · clear g0 g1
          go_wp2
          go_ret
          refine ⟨⟨_, ?_, rfl⟩, hk, hd2⟩
          simp [ByteArray.size_append]; simp [ByteArray.size]
        · clear g0 g1
          go_wp2
          go_ret
          refine ⟨⟨_, ?_, rfl⟩, hk, hd2⟩
          simp [ByteArray.size_append]; simp [ByteArray.size]
        · clear g0 g1 h0 h1 kb
          have hI : (at' : Int) < (s.size : Int) := by omega
          have kc := fun w => Lib.run_convert_string_bytes (P := Tryd.prog) w 9 22 5 s Tryd.underlying9 Tryd.underlying22 Tryd.underlying5
          have R0 := row8_bytes w2 5 s
          have B0 := below_bytes w2 5 s
          have hd4 := hd2.kept B0
          have hk4 : Kp p w (Lib.bytesWorld w2 5 s) := hk.trans (Kp.of_below B0)
          have hpw : p < w2.heap.size := hd2.lt
          have hwg : w.heap.size ≤ w2.heap.size := hk.size
          go_wp2
          generalize Lib.bytesWorld w2 5 s = X at *
          generalize w2.heap.size = g at *
          clear kc B0 hk
          have hne : g ≠ p := by omega
          have hc0 := R0.cell at' (by rw [nums_length]; exact hlt)
          have hf0 := R0.free at' (by rw [nums_length]; exact hlt)
          go_region_with (go_at_call 30; refine (l1Below_any p 8 _ hd4.drew (by omega)).mono ?_; rintro e w3 ⟨⟨m3, hm3, _, hm4, rfl⟩, hk3, hd3⟩; have hX3 := Kp.of_drew hk3; have hc3 := hX3.cell hc0 hne; have hf3 := (R0.kp hX3 hne).free at' (by rw [nums_length]; exact hlt); have hm8 := hm3 (by omega))
          all_goals
            have kt := fun (V : Int) => ((R0.kp hX3 hne).set at' V (by rw [nums_length]; exact hlt)).text (P := Tryd.prog) 22 5 9 s.size (grownCap w2 s.size 0 5) (by rw [List.length_set, nums_length]) Tryd.underlying22 Tryd.underlying5 Tryd.underlying9
            go_wp2
            go_ret
            refine ⟨⟨_, ?_, rfl⟩, (hk4.trans hX3).setNew hwg _ _, hd3.setNew (by omega) _ _⟩
            rw [strOfNums_size, List.length_set, nums_length]
            omega
end Go.Proofs.YtmhohponikolfaaDoor
namespace Go.Proofs.YtmhohponikolfaaDoor
set_option linter.unusedVariables false
set_option linter.unusedSimpArgs false
open Go.RowKit

/-- What the laws tell of their code. -/
structure Code (w : World) (a : Option Addr) (len : Nat) : Prop where
  row : CodeRow w w.heap.size a len
  max : len ≤ maxLen
theorem Code.later {w w' : World} {a : Option Addr} {len : Nat} (h : Code w a len) (hb : Below w.heap.size w w') : Code w' a len := ⟨h.row.later hb, h.max⟩

end Go.Proofs.YtmhohponikolfaaDoor
namespace Go.Proofs.YtmhohponikolfaaDoor
set_option linter.unusedVariables false
set_option linter.unusedSimpArgs false
open Go.RowKit
theorem kp_of_alloc (p : Nat) (w : World) (o : Obj) : Kp p w (w.alloc o) := World.grownBy_alloc w o _
theorem kp_set2 {p g : Nat} {a w : World} (h : Kp p a w) (hg : a.heap.size ≤ g) (x y : Value) : Kp p a ((w.setCell ⟨g, 0, none⟩ x).setCell ⟨g, 1, none⟩ y) := (h.setNew hg 0 x).setNew hg 1 y
theorem drw_set22 {p g : Nat} {w : World} (h : Drw w p) (hg : p < g) (x y : Value) : Drw ((w.setCell ⟨g, 0, none⟩ x).setCell ⟨g, 1, none⟩ y) p := (h.setNew hg 0 x).setNew hg 1 y
theorem Tryd.infoFd : (Tryd.prog.info? 25).map (·.size) = some 2 := by kernel_rfl
theorem str_size {l : List UInt8} {n : Nat} (h : l.length ≤ n) : (ByteArray.mk l.toArray).size ≤ n := by show l.toArray.size ≤ n; simpa using h
set_option maxHeartbeats 2000000 in
theorem l5name_any (p : Nat) (w : World) (hd : Drw w p) :
    Calls Tryd.prog 31 #[.pointer (some ⟨p, 0, none⟩)] w fun e w' => (∃ s : ByteArray, s.size ≤ 10 ∧ e = .returned (.string s)) ∧ Kp p w w' ∧ Drw w' p := by
  go_enter Tryd.func31, Tryd.ntmps31
  go_wp2_with fail
  refine (l1Below_any p 9 _ hd (by omega)).mono ?_
  rintro e w1 ⟨⟨n, hn, _, _, rfl⟩, hk1, hd1⟩
  have hn9 : n < 9 := by have := hn (by omega); omega
  clear hn
  have hc : n = 0 ∨ n = 1 ∨ n = 2 ∨ n = 3 ∨ n = 4 ∨ n = 5 ∨ n = 6 ∨ (7 ≤ n ∧ n < 9) := by omega
  rcases hc with rfl | rfl | rfl | rfl | rfl | rfl | rfl | ⟨h7, h9⟩
  case inr.inr.inr.inr.inr.inr.inr =>
    have g0 : ((n : Int) == 0) = false := by rw [beq_eq_false_iff_ne]; omega
    have g1 : ((n : Int) == 1) = false := by rw [beq_eq_false_iff_ne]; omega
    have g2 : ((n : Int) == 2) = false := by rw [beq_eq_false_iff_ne]; omega
    have g3 : ((n : Int) == 3) = false := by rw [beq_eq_false_iff_ne]; omega
    have g4 : ((n : Int) == 4) = false := by rw [beq_eq_false_iff_ne]; omega
    have g5 : ((n : Int) == 5) = false := by rw [beq_eq_false_iff_ne]; omega
    have g6 : ((n : Int) == 6) = false := by rw [beq_eq_false_iff_ne]; omega
    go_wp2_with fail
    refine (l1Below_any p 4 _ hd1 (by omega)).mono ?_
    rintro e w2 ⟨⟨m, hm, _, _, rfl⟩, hk2, hd2⟩
    have hm4 : m < 4 := by have := hm (by omega); omega
    have e1 : IntKind.i64.wrap (1 + (m : Int)) = ((m + 1 : Nat) : Int) := by rw [IntKind.wrap_i64]; omega
    clear hm g0 g1 g2 g3 g4 g5 g6
    go_wp2_with fail
    have e2 : (1 : Int) + (m : Int) = ((m + 1 : Nat) : Int) := by omega
    first | rw [e2] | skip
    refine (l1of_any p (m + 1) _ _ hd2 (by omega) (by decide) (by decide)).mono ?_
    rintro e w3 ⟨⟨l, hl, _, rfl⟩, hk3, hd3⟩
    have HS := hideB2 (str_size (n := 10) (l := l) (by omega))
    have HK := hideB2 ((hk1.trans hk2).trans hk3)
    have HD := hideB2 hd3
    generalize ByteArray.mk l.toArray = s at *
    clear hl hk1 hk2 hk3 hd1 hd2 hd3 hd
    go_wp2
    go_ret
    exact ⟨⟨s, HS.out, rfl⟩, HK.out, HD.out⟩
  all_goals
    go_wp2
    go_ret
    exact ⟨⟨_, by decide, rfl⟩, hk1, hd1⟩
set_option maxHeartbeats 4000000 in
theorem l5field_any (p : Nat) (w : World) (hd : Drw w p) :
    Calls Tryd.prog 17 #[.pointer (some ⟨p, 0, none⟩)] w fun e w' => (∃ d s : ByteArray, d.size ≤ 10 ∧ s.size ≤ 40 ∧ e = .returned (.agg #[.string d, .string s])) ∧ Kp p w w' ∧ Drw w' p := by
  have hp := hd.lt
  have R0 := Blk.new w #[.string ⟨#[]⟩, .string ⟨#[]⟩] 25
  have K0 := kp_of_alloc p w (.cells #[.string ⟨#[]⟩, .string ⟨#[]⟩] 25)
  have hd0 := hd.alloc (.cells #[.string ⟨#[]⟩, .string ⟨#[]⟩] 25)
  go_enter Tryd.func17, Tryd.ntmps17
  go_wp2_with fail
  generalize w.alloc (.cells #[.string ⟨#[]⟩, .string ⟨#[]⟩] 25) = W0 at *
  refine (l5name_any p _ hd0).mono ?_
  rintro e w1 ⟨⟨d, hds, rfl⟩, hk1, hd1⟩
  go_wp2_with fail
  refine (l1Below_any p 6 _ hd1 (by omega)).mono ?_
  rintro e w2 ⟨⟨n, hn, _, _, rfl⟩, hk2, hd2⟩
  have hn6 : n < 6 := by have := hn (by omega); omega
  clear hn
  go_wp2_with fail
  refine (l1of_any p n _ _ hd2 (by omega) (by decide) (by decide)).mono ?_
  rintro e w3 ⟨⟨l, hl, _, rfl⟩, hk3, hd3⟩
  have hls := str_size (n := 5) (l := l) (by omega)
  generalize ByteArray.mk l.toArray = s at *
  clear hl
  go_wp2_with fail
  refine (l1Below_any p 4 _ hd3 (by omega)).mono ?_
  rintro e w4 ⟨⟨m, hm, _, _, rfl⟩, hk4, hd4⟩
  have hm4 : m < 4 := by have := hm (by omega); omega
  have hk := (((K0.trans hk1).trans hk2).trans hk3).trans hk4
  have R4 := blk_kp (blk_kp (blk_kp (blk_kp R0 hk1 (by omega)) hk2 (by omega)) hk3 (by omega)) hk4 (by omega)
  clear hm hk1 hk2 hk3 hk4 hd hd0 hd1 hd2 hd3 R0 K0
  obtain ⟨r0, r1⟩ := R4.c2
  have f0 := R4.free 0
  have f1 := R4.free 1
  have hc : m = 0 ∨ m = 1 ∨ (2 ≤ m ∧ m < 4) := by omega
  rcases hc with rfl | rfl | ⟨h2, h3⟩
  · have HR := hideB2 R4
    have HK := hideB2 hk
    have HD := hideB2 hd4
    clear R4 hk hd4
    go_wp2
    refine bodyPost_ret (results_cellS rfl _ _ _ rfl (HR.out.set2 _ _) Tryd.underlying25 Tryd.infoFd) rfl ⟨⟨_, _, hds, by decide, rfl⟩, kp_set2 HK.out (Nat.le_refl _) _ _, drw_set22 HD.out hp _ _⟩
  · clear r0 r1 f0 f1
    go_wp2_with fail
    refine (l1of_any p 1 _ _ hd4 (by omega) (by decide) (by decide)).mono ?_
    rintro e w5 ⟨⟨l1, hl1, _, rfl⟩, hk5, hd5⟩
    have hs1 := str_size (n := 1) (l := l1) (by omega)
    generalize ByteArray.mk l1.toArray = s1 at *
    clear hl1
    go_wp2_with fail
    refine (l1Below_any p 8 _ hd5 (by omega)).mono ?_
    rintro e w6 ⟨⟨q, hq, _, _, rfl⟩, hk6, hd6⟩
    have hq8 : q < 8 := by have := hq (by omega); omega
    clear hq
    go_wp2_with fail
    refine (l1of_any p q _ _ hd6 (by omega) (by decide) (by decide)).mono ?_
    rintro e w7 ⟨⟨l2, hl2, _, rfl⟩, hk7, hd7⟩
    have hs2 := str_size (n := 8) (l := l2) (by omega)
    generalize ByteArray.mk l2.toArray = s2 at *
    clear hl2
    go_wp2_with fail
    refine (l1of_any p 1 _ _ hd7 (by omega) (by decide) (by decide)).mono ?_
    rintro e w8 ⟨⟨l3, hl3, _, rfl⟩, hk8, hd8⟩
    have hs3 := str_size (n := 1) (l := l3) (by omega)
    generalize ByteArray.mk l3.toArray = s3 at *
    clear hl3
    have R8 := blk_kp (blk_kp (blk_kp (blk_kp R4 hk5 (by omega)) hk6 (by omega)) hk7 (by omega)) hk8 (by omega)
    obtain ⟨r0, r1⟩ := R8.c2
    have f0 := R8.free 0
    have f1 := R8.free 1
    have HR := hideB2 R8
    have HK := hideB2 ((((hk.trans hk5).trans hk6).trans hk7).trans hk8)
    have HD := hideB2 hd8
    clear R4 R8 hk hk5 hk6 hk7 hk8 hd4 hd5 hd6 hd7 hd8
    go_wp2
    refine bodyPost_ret (results_cellS rfl _ _ _ rfl (HR.out.set2 _ _) Tryd.underlying25 Tryd.infoFd) rfl ⟨⟨_, _, hds, by rw [ByteArray.size_append, ByteArray.size_append]; omega, rfl⟩, kp_set2 HK.out (Nat.le_refl _) _ _, drw_set22 HD.out hp _ _⟩
  · have g0 : ((m : Int) == 0) = false := by rw [beq_eq_false_iff_ne]; omega
    have g1 : ((m : Int) == 1) = false := by rw [beq_eq_false_iff_ne]; omega
    have HR := hideB2 R4
    have HK := hideB2 hk
    have HD := hideB2 hd4
    clear R4 hk hd4
    go_wp2
    refine bodyPost_ret (results_cellS rfl _ _ _ rfl (HR.out.set2 _ _) Tryd.underlying25 Tryd.infoFd) rfl ⟨⟨_, _, hds, by omega, rfl⟩, kp_set2 HK.out (Nat.le_refl _) _ _, drw_set22 HD.out hp _ _⟩
end Go.Proofs.YtmhohponikolfaaDoor
namespace Go.Proofs.YtmhohponikolfaaDoor
set_option linter.unusedVariables false
set_option linter.unusedSimpArgs false
open Go.RowKit
/-- A field in a variable of the call's own, block g, while numbers are drawn; r is its result's block. -/
structure DF (p r g : Nat) (w wr : World) (d s : ByteArray) : Prop where
  blk : Blk wr g #[.string d, .string s] 25
  res : Blk wr r #[.string ⟨#[]⟩, .string ⟨#[]⟩] 25
  st : Drw wr p
  bel : Below w.heap.size w wr
  rge : w.heap.size ≤ r
  pge : w.heap.size ≤ p
  ne1 : r ≠ p
  ne2 : p < g
  ne3 : r < g
theorem DF.draw {p r g : Nat} {w wr w' : World} {d s : ByteArray} (h : DF p r g w wr d s) (k : Kp p wr w') (hd : Drw w' p) : DF p r g w w' d s :=
  ⟨blk_kp h.blk k (by have := h.ne2; omega), blk_kp h.res k h.ne1, hd, h.bel.trans (k.below h.pge (Nat.le_of_lt h.st.lt)), h.rge, h.pge, h.ne1, h.ne2, h.ne3⟩
theorem DF.set0 {p r g : Nat} {w wr : World} {d s : ByteArray} (h : DF p r g w wr d s) (x : ByteArray) : DF p r g w (wr.setCell ⟨g, 0, none⟩ (.string x)) x s :=
  ⟨h.blk.set 0 _, h.res.other (by have := h.ne3; omega) 0 _, h.st.setNew h.ne2 0 _, h.bel.setCell (p := ⟨g, 0, none⟩) (by have := h.ne3; have := h.rge; simp; omega) _, h.rge, h.pge, h.ne1, h.ne2, h.ne3⟩
theorem DF.set1 {p r g : Nat} {w wr : World} {d s : ByteArray} (h : DF p r g w wr d s) (x : ByteArray) : DF p r g w (wr.setCell ⟨g, 1, none⟩ (.string x)) d x :=
  ⟨h.blk.set 1 _, h.res.other (by have := h.ne3; omega) 1 _, h.st.setNew h.ne2 1 _, h.bel.setCell (p := ⟨g, 1, none⟩) (by have := h.ne3; have := h.rge; simp; omega) _, h.rge, h.pge, h.ne1, h.ne2, h.ne3⟩
end Go.Proofs.YtmhohponikolfaaDoor
