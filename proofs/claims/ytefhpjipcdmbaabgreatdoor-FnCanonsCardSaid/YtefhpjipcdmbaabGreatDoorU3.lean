/-
  Chapter 7: the pieces that stay, and a path in its one form; the program's side.
-/
import Derived.Test.YtefhpjipcdmbaabGreatDoorU2
import Derived.Test.YtefhpjipcdmbaabGreatDoorUSp
namespace Go.Proofs.YtefhpjipcdmbaabGreatDoor
set_option linter.unusedVariables false
set_option linter.unusedSimpArgs false
open Go.RowKit
theorem keepS_dd {k : List ByteArray} {x : ByteArray} (h : eqB x dd = true) : keepS k x = k.take (k.length - 1) ∧ dotQ x = true := by
  unfold keepS dotQ
  rw [if_pos h, h, Bool.or_true, List.dropLast_eq_take]
  exact ⟨rfl, rfl⟩
theorem keepS_d1 {k : List ByteArray} {x : ByteArray} (h : eqB x dd = false) (h1 : eqB x d1 = true) : keepS k x = k ∧ dotQ x = true := by
  unfold keepS dotQ
  rw [h, h1]
  exact ⟨rfl, rfl⟩
theorem keepS_no {k : List ByteArray} {x : ByteArray} (h : eqB x dd = false) (h1 : eqB x d1 = false) : keepS k x = k ++ [x] ∧ dotQ x = false := by
  unfold keepS dotQ
  rw [h, h1]
  exact ⟨rfl, rfl⟩
theorem eqB_dd (x : ByteArray) : (x.toList == [46, 46]) = eqB x dd := by
  unfold eqB; rw [ByteArray.toList_eq dd]; rfl
theorem eqB_d1 (x : ByteArray) : (x.toList == [46]) = eqB x d1 := by
  unfold eqB; rw [ByteArray.toList_eq d1]; rfl
set_option maxRecDepth 100000 in
set_option maxHeartbeats 4000000 in
theorem keptPieces_any (v : Value) (L : List ByteArray) (w0 w : World) (hv : BufS w0 w v L) (hl : L.length ≤ 1048577) :
    Calls Tryz.prog 49 #[v] w fun e w' => ∃ v', e = .returned v' ∧ BufS w w' v' (keptL L) := by
  have hcells := fun (h : 0 < L.length) => hv.cells h
  obtain ⟨a, c0, rfl⟩ := hv.form
  have HC := hideB2 (show ∀ j, j < L.length → ∃ g, a = some ⟨g, 0, none⟩ ∧ g < w.heap.size ∧ w.cell? ⟨g, j, none⟩ = some (.string (L.getD j ⟨#[]⟩)) from fun j hj => by
    obtain ⟨g, cap, e, _, hlt, hc⟩ := hcells (by omega)
    injection e with e1
    exact ⟨g, e1, hlt, hc j hj⟩)
  clear hcells hv
  generalize hn : L.length = n at *
  have HN := hideB2 hn
  clear hn
  go_enter Tryz.func49, Tryz.ntmps49
  go_wp2
  go_loopw [3, 4, 9] (fun kv ev i wr => ∃ k : Nat, k ≤ n ∧ i = .int .i64 k ∧ ev = .bool (lastDot (L.take k)) ∧ BufS w wr kv (keepL (L.take k))) (fun _ _ i _ => n - (intOf i).toNat)
  case atStart => exact ⟨0, Nat.zero_le _, rfl, rfl, BufS.start w⟩
  case round =>
    obtain ⟨k, hk, rfl, rfl, hbuf⟩ := hrel
    have hlen : (keepL (L.take k)).length ≤ 1048577 := by
      have h1 := (keepL_le (L.take k)).1
      rw [List.length_take] at h1
      omega
    by_cases hlt : k < n
    · obtain ⟨g, rfl, hgl, hcell⟩ := HC.out k hlt
      have p0 : wr.cell? ⟨g, k, none⟩ = some (.string (L.getD k ⟨#[]⟩)) := (hbuf.below.cell (p := ⟨g, k, none⟩) hgl).trans hcell
      have hkL : k < L.length := by rw [HN.out]; exact hlt
      have hgx : L.getD k ⟨#[]⟩ = L[k] := by rw [List.getD, List.getElem?_eq_getElem hkL]; rfl
      have HT := hideB2 (keepL_take hkL)
      have HD := hideB2 (lastDot_take hkL)
      rw [← hgx] at HT HD
      clear hcell hgx
      generalize L.getD k ⟨#[]⟩ = x at *
      generalize keepL (L.take k) = K at *
      generalize lastDot (L.take k) = q at *
      cases hdd : eqB x dd
      · cases hd1 : eqB x d1
        · obtain ⟨e1, e2⟩ := keepS_no (k := K) hdd hd1
          have HT2 := hideB2 (HT.out.trans e1)
          have HD2 := hideB2 (HD.out.trans e2)
          rw [← eqB_dd] at hdd
          rw [← eqB_d1] at hd1
          clear e1 e2 HT HD
          go_wp2_with (at_builtin; refine wp_sapp rfl (.tmp 24) (.tmp 26) rfl _ _ rfl hbuf x rfl (by omega) ?_; intro v2 W2 hbuf2)
          go_roundw
          case rel => exact ⟨k + 1, by omega, by go_num, by rw [HD2.out], by rw [HT2.out]; exact hbuf2⟩
          case measure => simp [intOf]; omega
        · obtain ⟨e1, e2⟩ := keepS_d1 (k := K) hdd hd1
          have HT2 := hideB2 (HT.out.trans e1)
          have HD2 := hideB2 (HD.out.trans e2)
          rw [← eqB_dd] at hdd
          rw [← eqB_d1] at hd1
          clear e1 e2 HT HD
          have HBF := hideB2 hbuf
          clear hbuf
          go_wp2
          go_roundw
          case rel => exact ⟨k + 1, by omega, by go_num, by rw [HD2.out], by rw [HT2.out]; exact HBF.out⟩
          case measure => simp [intOf]; omega
      · obtain ⟨e1, e2⟩ := keepS_dd (k := K) hdd
        have HT2 := hideB2 (HT.out.trans e1)
        have HD2 := hideB2 (HD.out.trans e2)
        rw [← eqB_dd] at hdd
        clear e1 e2 HT HD
        rcases hbuf.own.2 with ⟨rfl, h0⟩ | ⟨g1, cap1, _, rfl, _, _, hcap, hmx, _⟩
        · obtain rfl : K = [] := List.eq_nil_of_length_eq_zero h0
          have HBF := hideB2 hbuf
          clear hbuf h0
          go_wp2
          go_roundw
          case rel => exact ⟨k + 1, by omega, by go_num, by rw [HD2.out], by rw [HT2.out]; exact HBF.out⟩
          case measure => simp [intOf]; omega
        · have HBF := hideB2 (hbuf.shrink (K.length - 1) (by omega))
          clear hbuf
          generalize K.length = q1 at *
          unfold maxLen at hmx
          by_cases hq1 : 1 ≤ q1
          · have e1 : IntKind.i64.wrap ((q1 : Int) - 1) = ((q1 - 1 : Nat) : Int) := by rw [IntKind.wrap_i64]; omega
            have e2 : ¬ (((q1 - 1 : Nat) : Int) < 0) := by omega
            have e3 : ((q1 - 1 : Nat) : Int) ≤ (cap1 : Int) := by omega
            generalize q1 - 1 = m at *
            go_wp2
            go_roundw
            case rel => exact ⟨k + 1, by omega, by go_num, by rw [HD2.out], by rw [HT2.out]; exact HBF.out⟩
            case measure => simp [intOf]; omega
          · obtain rfl : q1 = 0 := by omega
            go_wp2
            go_roundw
            case rel => exact ⟨k + 1, by omega, by go_num, by rw [HD2.out], by rw [HT2.out]; exact HBF.out⟩
            case measure => simp [intOf]; omega
    · obtain rfl : k = n := by omega
      have ht : L.take k = L := List.take_of_length_le (by rw [HN.out]; exact Nat.le_refl _)
      rw [ht] at hbuf hlen ⊢
      have HK := hideB2 (show keptL L = if lastDot L = true then keepL L ++ [⟨#[]⟩] else keepL L from rfl)
      clear ht
      generalize keepL L = K at *
      cases hq : lastDot L
      · rw [hq] at HK
        have HK2 := hideB2 (HK.out.trans (if_neg (by simp)))
        have HBF := hideB2 hbuf
        clear hq hbuf
        go_wp2
        go_ret
        exact ⟨_, rfl, by rw [HK2.out]; exact HBF.out⟩
      · rw [hq] at HK
        have HK2 := hideB2 (HK.out.trans (if_pos rfl))
        clear hq
        go_wp2_with (at_builtin; refine wp_sapp rfl (.tmp 30) (.tmp 31) rfl _ _ rfl hbuf ⟨#[]⟩ rfl (by omega) ?_; intro v2 W2 hbuf2)
        go_ret
        exact ⟨_, rfl, by rw [HK2.out]; exact hbuf2⟩
end Go.Proofs.YtefhpjipcdmbaabGreatDoor
