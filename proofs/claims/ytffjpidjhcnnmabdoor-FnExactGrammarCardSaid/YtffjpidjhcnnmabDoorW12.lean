/-
  The walks over chapter 1: spec.TakeLine.
-/
import Derived.Test.YtffjpidjhcnnmabDoorW10
import Derived.Deep.RegionWith
namespace Go.Proofs.YtffjpidjhcnnmabDoor
set_option linter.unusedVariables false
set_option linter.unusedSimpArgs false
open Go.RowKit

theorem tlE_of {s : ByteArray} {k m : Nat} (h : eolLen s k = m) : tlE s k = k + m := by unfold tlE; rw [h]

set_option maxHeartbeats 1000000 in
theorem sTakeLine_bad (s : ByteArray) (n : Int) (w : World) (hc : curOk s n = false) :
    Calls Tryd.prog 9 #[.agg #[.string s, .int .i64 n]] w fun e w' => e = .returned (.tuple #[.string ⟨#[]⟩, curZ, .int .i64 2]) ∧ Below w.heap.size w w' := by
  go_enter Tryd.func9, Tryd.ntmps9
  go_wp2_with (go_at_call 22; refine (sCurOk_any s _ _).mono ?_; rintro e w' ⟨rfl, rfl⟩)
  refine bodyPost_ret (v := .tuple #[.string ⟨#[]⟩, curZ, .int .i64 2]) (by simp [results, Tryd.results9, go_sem, curZ]) rfl ⟨rfl, ?_⟩
  exact (by repeat (first | exact Below.refl _ _ | refine Below.drew ?_ | refine Below.alloc ?_ (by simp <;> omega) _ | refine Below.setCell ?_ (by simp <;> omega) _))
set_option maxHeartbeats 2000000 in
theorem sTakeLine_ok (s : ByteArray) (k : Nat) (w : World) (hs : s.size ≤ maxLen) (hk : k ≤ s.size) :
    Calls Tryd.prog 9 #[.agg #[.string s, .int .i64 (k : Int)]] w fun e w' => e = .returned (tlV s k) ∧ Below w.heap.size w w' := by
  have hs' := hs
  unfold maxLen at hs'
  have hc : curOk s (k : Int) = true := curOk_iff.2 ⟨by omega, by omega⟩
  go_enter Tryd.func9, Tryd.ntmps9
  go_wp2_with (go_at_call 22; refine (sCurOk_any s _ _).mono ?_; rintro e w' ⟨rfl, rfl⟩)
  clear hc
  go_loop [5] (fun i => ∃ m : Nat, k + m ≤ s.size ∧ i = .int .i64 ((k : Int) + (m : Int)) ∧ ∀ j, j < m → eol8 (at8 s (k + j)) = false) (fun i => s.size - (intOf i).toNat)
  case atStart => exact ⟨0, by omega, by simp, fun j hj => by omega⟩
  case round =>
    obtain ⟨m, hkm, rfl, hall⟩ := hrel
    have Hall : Hid (∀ j, j < m → eol8 (at8 s (k + j)) = false) := hall
    clear hall
    by_cases hlt : k + m < s.size
    · have hltI : (k : Int) + (m : Int) < (s.size : Int) := by omega
      by_cases h10 : ((at8 s (k + m)).toNat : Int) = 10
      · have g10 : ((s[k + m].toNat : Int) == 10) = true := by rw [at8_eq s (k + m) hlt]; simpa using h10
        have hE := tlE_of (eolLen_of s k m hkm Hall.out (Or.inr (eolP_iff.2 (Or.inr h10))))
        have hfin : Hid (tlV s k = .tuple #[.string ⟨#[]⟩, curZ, .int .i64 2]) := tlV_bad (tlC_10 (by rw [hE]; exact hlt) (by rw [hE]; omega))
        clear h10 hE
        go_wp2
        refine bodyPost_ret (v := .tuple #[.string ⟨#[]⟩, curZ, .int .i64 2]) (by simp [results, Tryd.results9, go_sem, curZ]) rfl ⟨by rw [hfin.out], ?_⟩
        exact (by repeat (first | exact Below.refl _ _ | refine Below.drew ?_ | refine Below.alloc ?_ (by simp <;> omega) _ | refine Below.setCell ?_ (by simp <;> omega) _))
      · have g10 : ((s[k + m].toNat : Int) == 10) = false := by rw [at8_eq s (k + m) hlt]; simpa using h10
        by_cases h13 : ((at8 s (k + m)).toNat : Int) = 13
        · have g13 : ((s[k + m].toNat : Int) == 13) = true := by rw [at8_eq s (k + m) hlt]; simpa using h13
          have hE := tlE_of (eolLen_of s k m hkm Hall.out (Or.inr (eolP_iff.2 (Or.inl h13))))
          by_cases hend : k + m + 1 = s.size
          · have hge : s.size ≤ k + m + 1 := by omega
            have hfin : Hid (tlV s k = .tuple #[.string ⟨#[]⟩, curZ, .int .i64 1]) := tlV_short (tlC_13end (by rw [hE]; exact hend) (by rw [hE]; omega))
            clear h10 h13 hE hend
            go_wp2
            refine bodyPost_ret (v := .tuple #[.string ⟨#[]⟩, curZ, .int .i64 1]) (by simp [results, Tryd.results9, go_sem, curZ]) rfl ⟨by rw [hfin.out], ?_⟩
            exact (by repeat (first | exact Below.refl _ _ | refine Below.drew ?_ | refine Below.alloc ?_ (by simp <;> omega) _ | refine Below.setCell ?_ (by simp <;> omega) _))
          · have hL2 : k + m + 1 < s.size := by omega
            by_cases hn : ((at8 s (k + m + 1)).toNat : Int) = 10
            · have gn : ((s[k + m + 1].toNat : Int) != 10) = false := by rw [at8_eq s (k + m + 1) hL2]; simpa using hn
              have hfin : Hid (tlV s k = .tuple #[.string (s.extract k (k + m)), .agg #[.string s, .int .i64 ((k : Int) + (m : Int) + 2)], .int .i64 0]) := by
                have := tlV_ok (tlC_ok (s := s) (k := k) (by rw [hE]; exact hL2) (by rw [hE]; omega) (by rw [hE]; omega))
                rw [hE] at this
                rw [show (k : Int) + (m : Int) = ((k + m : Nat) : Int) from by omega]
                exact this
              have e1 : IntKind.i64.wrap ((k : Int) + (m : Int) + 2) = (k : Int) + (m : Int) + 2 := by rw [IntKind.wrap_i64]; omega
              have hkm2 : k ≤ k + m := by omega
              clear h10 h13 hE hend hn
              go_wp2
              go_region
              go_wp2
              refine bodyPost_ret (v := .tuple #[.string (s.extract k (k + m)), .agg #[.string s, .int .i64 ((k : Int) + (m : Int) + 2)], .int .i64 0]) (by simp [results, Tryd.results9, go_sem]) rfl ⟨by rw [hfin.out], ?_⟩
              exact (by repeat (first | exact Below.refl _ _ | refine Below.drew ?_ | refine Below.alloc ?_ (by simp <;> omega) _ | refine Below.setCell ?_ (by simp <;> omega) _))
            · have gn : ((s[k + m + 1].toNat : Int) != 10) = true := by rw [at8_eq s (k + m + 1) hL2]; simpa using hn
              have hfin : Hid (tlV s k = .tuple #[.string ⟨#[]⟩, curZ, .int .i64 2]) := tlV_bad (tlC_no (by rw [hE]; exact hL2) (by rw [hE]; omega) (by rw [hE]; omega))
              clear h10 h13 hE hend hn
              go_wp2
              refine bodyPost_ret (v := .tuple #[.string ⟨#[]⟩, curZ, .int .i64 2]) (by simp [results, Tryd.results9, go_sem, curZ]) rfl ⟨by rw [hfin.out], ?_⟩
              exact (by repeat (first | exact Below.refl _ _ | refine Below.drew ?_ | refine Below.alloc ?_ (by simp <;> omega) _ | refine Below.setCell ?_ (by simp <;> omega) _))
        · have g13 : ((s[k + m].toNat : Int) == 13) = false := by rw [at8_eq s (k + m) hlt]; simpa using h13
          have hnew : Hid (eol8 (at8 s (k + m)) = false) := eolP_no.2 ⟨h13, h10⟩
          clear h10 h13
          go_wp2
          go_round
          case rel => exact ⟨m + 1, by omega, by go_num, all_succ Hall.out hnew.out⟩
          case measure => simp [intOf]; omega
    · have hge : (s.size : Int) ≤ (k : Int) + (m : Int) := by omega
      have hE := tlE_of (eolLen_of s k m hkm Hall.out (Or.inl (by omega)))
      have hfin : Hid (tlV s k = .tuple #[.string ⟨#[]⟩, curZ, .int .i64 1]) := tlV_short0 (by rw [hE]; omega)
      clear hE
      go_wp2
      refine bodyPost_ret (v := .tuple #[.string ⟨#[]⟩, curZ, .int .i64 1]) (by simp [results, Tryd.results9, go_sem, curZ]) rfl ⟨by rw [hfin.out], ?_⟩
      exact (by repeat (first | exact Below.refl _ _ | refine Below.drew ?_ | refine Below.alloc ?_ (by simp <;> omega) _ | refine Below.setCell ?_ (by simp <;> omega) _))
end Go.Proofs.YtffjpidjhcnnmabDoor
