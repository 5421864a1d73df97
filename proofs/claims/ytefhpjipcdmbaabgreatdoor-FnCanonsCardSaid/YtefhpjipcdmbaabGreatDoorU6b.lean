/-
  Chapter 7: hosts; the specification's side.
-/
import Derived.Test.YtefhpjipcdmbaabGreatDoorU6
namespace Go.Proofs.YtefhpjipcdmbaabGreatDoor
set_option linter.unusedVariables false
set_option linter.unusedSimpArgs false
open Go.RowKit
def pieceQ (x : ByteArray) : Bool := !eqB x ⟨#[]⟩ && allB pc8 x
theorem hostQ_pieces {s : ByteArray} (h : s.size ≤ 60) : hostQ s = (splS 46 s).all pieceQ := by
  unfold hostQ
  rw [decide_eq_true h, Bool.true_and, hst_pieces]
  induction splS 46 s with
  | nil => rfl
  | cons x r ih =>
    rw [List.all_cons, List.any_cons, List.all_cons, ← ih]
    unfold pieceQ
    cases allB pc8 x <;> cases eqB x ⟨#[]⟩ <;> simp
theorem piece_empty {x : ByteArray} (h : x.size = 0) : pieceQ x = false := by
  have e : x = ⟨#[]⟩ := by
    apply bytes_ext
    exact List.eq_nil_of_length_eq_zero (by rw [len_data]; exact h)
  rw [e]; unfold pieceQ; rw [eqB_self]; rfl
theorem hostQ_empty {s : ByteArray} (h : s.size = 0) : hostQ s = false := by
  have e : s = ⟨#[]⟩ := by
    apply bytes_ext
    exact List.eq_nil_of_length_eq_zero (by rw [len_data]; exact h)
  rw [hostQ_pieces (by omega), e, (splS_none (c := 46) (s := ⟨#[]⟩) (idxS_miss (fun j hj => absurd hj (Nat.not_lt_zero j)))).2, List.all_cons, piece_empty rfl]
  rfl
theorem pieces_no {l : List ByteArray} {i : Nat} (hi : i < l.length) (h : pieceQ (l.getD i ⟨#[]⟩) = false) : l.all pieceQ = false := by
  rw [List.all_eq_false]
  refine ⟨l[i], List.getElem_mem hi, ?_⟩
  rw [List.getD, List.getElem?_eq_getElem hi] at h
  simpa using h
theorem pieces_yes {l : List ByteArray} (h : ∀ j, j < l.length → pieceQ (l.getD j ⟨#[]⟩) = true) : l.all pieceQ = true := by
  rw [List.all_eq_true]
  intro x hx
  obtain ⟨j, hj, rfl⟩ := List.mem_iff_getElem.1 hx
  have := h j hj
  rwa [List.getD, List.getElem?_eq_getElem hj] at this
theorem piece_no {x : ByteArray} {k : Nat} (hk : k < x.size) (h : pc8 (at8 x k) = false) : pieceQ x = false := by
  unfold pieceQ; rw [allB_no hk h, Bool.and_false]
theorem piece_yes {x : ByteArray} (h0 : x.size ≠ 0) (h : ∀ j, j < x.size → pc8 (at8 x j) = true) : pieceQ x = true := by
  unfold pieceQ
  have : eqB x ⟨#[]⟩ = false := by
    cases he : eqB x ⟨#[]⟩ with
    | false => rfl
    | true => exact absurd (by rw [eqB_iff.1 he]; rfl) h0
  rw [this, allB_yes h]; rfl
set_option maxRecDepth 100000 in
set_option maxHeartbeats 4000000 in
theorem l7host_any (s : ByteArray) (w : World) (hs : s.size ≤ maxLen) :
    Calls Tryz.prog 55 #[.string s] w fun e w' => e = .returned (.bool (hostQ s)) ∧ Below w.heap.size w w' := by
  have hs' := hs
  unfold maxLen at hs'
  by_cases h0 : s.size = 0
  · rw [hostQ_empty h0]
    have e0 : ((s.size : Int) == 0) = true := by rw [beq_iff_eq]; omega
    go_enter Tryz.func55, Tryz.ntmps55
    go_wp2
    go_ret
    exact ⟨rfl, Below.refl _ _⟩
  · have e0 : ((s.size : Int) == 0) = false := by rw [beq_eq_false_iff_ne]; omega
    by_cases h60 : (60 : Int) < (s.size : Int)
    · rw [show hostQ s = false by unfold hostQ; rw [decide_eq_false (by omega)]; rfl]
      go_enter Tryz.func55, Tryz.ntmps55
      go_wp2
      go_ret
      exact ⟨rfl, Below.refl _ _⟩
    · have HSP := hideB2 (fun W => l7split_any s 46 W (by omega))
      change Hid (∀ W, Calls _ _ #[_, .int .u8 46] W _) at HSP
      have hls := (splS_le 46 s).1
      have HMZ := hideB2 (fun x (h : x ∈ splS 46 s) => splS_mem h)
      generalize hR : hostQ s = R
      have HR := hideB2 (show R = (splS 46 s).all pieceQ by rw [← hR]; exact hostQ_pieces (by omega))
      clear hR
      generalize splS 46 s = L at *
      go_enter Tryz.func55, Tryz.ntmps55
      go_wp2_with fail
      refine (HSP.out _).mono ?_
      rintro e w1 ⟨v1, rfl, hbuf⟩
      have HB := hideB2 hbuf.below
      have hcells := fun (h : 0 < L.length) => hbuf.cells h
      obtain ⟨a, c0, rfl⟩ := hbuf.form
      have HC := hideB2 (show ∀ j, j < L.length → ∃ g, a = some ⟨g, 0, none⟩ ∧ w1.cell? ⟨g, j, none⟩ = some (.string (L.getD j ⟨#[]⟩)) from fun j hj => by
        obtain ⟨g, cap, e, _, hlt, hc⟩ := hcells (by omega)
        injection e with e1
        exact ⟨g, e1, hc j hj⟩)
      have HPN := hideB2 (fun i => pieces_no (l := L) (i := i))
      have HPY := hideB2 (pieces_yes (l := L))
      clear hcells hbuf
      generalize hn : L.length = n at *
      have HN := hideB2 hn
      clear hn
      go_wp2
      go_loop [4] (fun iv => ∃ i : Nat, i ≤ n ∧ iv = .int .i64 i ∧ ∀ j, j < i → pieceQ (L.getD j ⟨#[]⟩) = true) (fun iv => n - (intOf iv).toNat)
      case atStart => exact ⟨0, Nat.zero_le _, rfl, fun j hj => by omega⟩
      case round =>
        obtain ⟨i, hi, rfl, hall⟩ := hrel
        have HA := hideB2 hall
        clear hall
        by_cases hlt : i < n
        · obtain ⟨g, rfl, p0⟩ := HC.out i hlt
          have HXS := hideB2 (show (L.getD i ⟨#[]⟩).size ≤ s.size by
            have hh : i < L.length := by rw [HN.out]; exact hlt
            rw [List.getD, List.getElem?_eq_getElem hh]
            exact HMZ.out _ (List.getElem_mem hh))
          have HNO := hideB2 (fun (h : pieceQ (L.getD i ⟨#[]⟩) = false) => show R = false by rw [HR.out]; exact HPN.out i hlt h)
          have HST := hideB2 (fun (h : pieceQ (L.getD i ⟨#[]⟩) = true) => all_succ HA.out h)
          generalize L.getD i ⟨#[]⟩ = x at *
          have hxz : x.size ≤ 60 := by have := HXS.out; omega
          by_cases hx0 : x.size = 0
          · have hne := empty_of hx0
            have HF := hideB2 (HNO.out (piece_empty hx0))
            go_wp2
            go_ret
            exact ⟨ret_bool HF.out, HB.out⟩
          · have hne := nonempty_of hx0
            have HYES := hideB2 (piece_yes hx0)
            have HNOX := hideB2 (fun k => piece_no (x := x) (k := k))
            clear hx0
            go_wp2
            go_loop [5] (fun kv => ∃ k : Nat, k ≤ x.size ∧ kv = .int .i64 k ∧ ∀ j, j < k → pc8 (at8 x j) = true) (fun kv => x.size - (intOf kv).toNat)
            case atStart => exact ⟨0, Nat.zero_le _, rfl, fun j hj => by omega⟩
            case round =>
              obtain ⟨k, hk, rfl, hall⟩ := hrel
              have HP := hideB2 hall
              clear hall
              by_cases hkx : k < x.size
              · have hat : x[k] = at8 x k := at8_eq x k hkx
                have HAT := hideB2 (show pc8 (at8 x k) = pcP (x[k].toNat : Int) by rw [hat]; rfl)
                have HDG := hideB2 (fun W => l1digit_any (x[k].toNat : Int) W)
                clear hat
                by_cases a1 : (97 : Int) ≤ (x[k].toNat : Int)
                · by_cases a2 : (x[k].toNat : Int) ≤ 122
                  · have HQ := hideB2 (show pc8 (at8 x k) = true by rw [HAT.out]; unfold pcP; simp [a1, a2])
                    go_wp2
                    go_round
                    case rel => exact ⟨k + 1, by omega, by go_num, all_succ HP.out HQ.out⟩
                    case measure => simp [intOf]; omega
                  · have hd : digP (x[k].toNat : Int) = false := by unfold digP; rw [decide_eq_false (show ¬ (x[k].toNat : Int) ≤ 57 by omega), Bool.and_false]
                    have h45 : ((x[k].toNat : Int) != 45) = true := by rw [bne_iff_ne]; omega
                    have HF := hideB2 (HNO.out (HNOX.out k hkx (by rw [HAT.out]; unfold pcP; rw [hd, decide_eq_false a2, beq_eq_false_iff_ne.2 (show (x[k].toNat : Int) ≠ 45 by omega)]; simp)))
                    rw [hd] at HDG
                    clear hd
                    go_wp2_with (go_at_call 61; refine (HDG.out _).mono ?_; rintro e w' ⟨rfl, rfl⟩)
                    go_ret
                    exact ⟨ret_bool HF.out, HB.out⟩
                · cases hd : digP (x[k].toNat : Int)
                  · rw [hd] at HDG
                    cases h45 : ((x[k].toNat : Int) == 45)
                    · have h45' : ((x[k].toNat : Int) != 45) = true := by rw [bne, h45]; rfl
                      have HF := hideB2 (HNO.out (HNOX.out k hkx (by rw [HAT.out]; unfold pcP; rw [hd, decide_eq_false a1, h45]; simp)))
                      clear hd h45
                      go_wp2_with (go_at_call 61; refine (HDG.out _).mono ?_; rintro e w' ⟨rfl, rfl⟩)
                      go_ret
                      exact ⟨ret_bool HF.out, HB.out⟩
                    · have h45' : ((x[k].toNat : Int) != 45) = false := by rw [bne, h45]; rfl
                      have HQ := hideB2 (show pc8 (at8 x k) = true by rw [HAT.out]; unfold pcP; rw [h45]; simp)
                      clear hd h45
                      go_wp2_with (go_at_call 61; refine (HDG.out _).mono ?_; rintro e w' ⟨rfl, rfl⟩)
                      go_round
                      case rel => exact ⟨k + 1, by omega, by go_num, all_succ HP.out HQ.out⟩
                      case measure => simp [intOf]; omega
                  · rw [hd] at HDG
                    have HQ := hideB2 (show pc8 (at8 x k) = true by rw [HAT.out]; unfold pcP; rw [hd]; simp)
                    clear hd
                    go_wp2_with (go_at_call 61; refine (HDG.out _).mono ?_; rintro e w' ⟨rfl, rfl⟩)
                    go_round
                    case rel => exact ⟨k + 1, by omega, by go_num, all_succ HP.out HQ.out⟩
                    case measure => simp [intOf]; omega
              · have HT := hideB2 (HST.out (HYES.out (fun j hj => HP.out j (by omega))))
                go_wp2
                go_round
                case rel => exact ⟨i + 1, by omega, by go_num, HT.out⟩
                case measure => simp [intOf]; omega
        · have HF := hideB2 (show R = true by rw [HR.out]; exact HPY.out (fun j hj => HA.out j (by omega)))
          go_wp2
          go_ret
          exact ⟨ret_bool HF.out, HB.out⟩
end Go.Proofs.YtefhpjipcdmbaabGreatDoor
