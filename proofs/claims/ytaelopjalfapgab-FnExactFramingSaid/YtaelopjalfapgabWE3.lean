/-
  The walks over chapter 1: spec.Elements.
-/
import Derived.Test.YtaelopjalfapgabWE2
namespace Go.Proofs.Ytaelopjalfapgab
set_option linter.unusedVariables false
set_option linter.unusedSimpArgs false
open Go.RowKit
theorem keepT (s : ByteArray) : ((¬ (0 : Int) < ((trimB s).size : Int)) ∧ keepP s.data.toList = []) ∨ ((0 : Int) < ((trimB s).size : Int) ∧ keepP s.data.toList = [trimB s]) := by
  have e : (trimB s).size = (trimL s.data.toList).length := by show (trimL s.data.toList).toArray.size = _; simp
  by_cases h : trimL s.data.toList = []
  · left; refine ⟨by rw [e, h]; simp, ?_⟩
    unfold keepP; rw [if_pos h]
  · right
    have : 0 < (trimL s.data.toList).length := List.length_pos_iff.2 h
    refine ⟨by rw [e]; omega, ?_⟩
    unfold keepP; rw [if_neg h]; rfl
def qN (q : Bool) : Nat := if q then 1 else 0
set_option maxHeartbeats 4000000 in
theorem sElements_small (s : ByteArray) (w : World) (hs : s.size ≤ 4000) :
    Calls Try.prog 24 #[.string s] w fun e w' => ∃ v, e = .returned v ∧ BufS w w' v (elsB s) := by
  have hsm : s.size ≤ maxLen := by unfold maxLen; omega
  have hnb : ¬ (4000 : Int) < (s.size : Int) := by omega
  go_enter Try.func24, Try.ntmps24
  go_wp2
  go_loopw [3, 4, 5, 6] (fun v f b i wr => ∃ (fr k : Nat) (q : Bool) (P : List (List UInt8)), f = .int .i64 (fr : Int) ∧ b = .bool q ∧ i = .int .i64 (k : Int) ∧ P.length ≤ k ∧ ((k ≤ s.size ∧ ERel s.data.toList (qN q) fr k P ∧ BufS w wr v (cleanP P)) ∨ (k = s.size + 1 ∧ BufS w wr v (elsB s)))) (fun _ _ _ i _ => s.size + 1 - (intOf i).toNat)
  case atStart => exact ⟨0, 0, false, [], rfl, rfl, rfl, Nat.zero_le _, Or.inl ⟨Nat.zero_le _, erel_start _, BufS.start w⟩⟩
  case round =>
    obtain ⟨fr, k, q, P, rfl, rfl, rfl, hPk, hst⟩ := hrel
    rcases hst with ⟨hk, hrel, hbuf⟩ | ⟨hk, hbuf⟩
    · have hfr := hrel.1
      have hcl := cleanP_len P
      have hle : (k : Int) ≤ (s.size : Int) := by omega
      by_cases hend : k = s.size
      · subst hend
        have hfin : Hid (elsB s = cleanP P ++ keepP (s.extract fr s.size).data.toList) := by
          show _ = _
          rw [els_small hs, extract_list]
          have := hrel
          rw [← len_data] at this
          rw [erel_end this, cleanP_snoc, List.take_of_length_le (by rw [len_data]; exact Nat.le_refl _)]
        clear hrel
        rcases keepT (s.extract fr s.size) with ⟨ht, hkp⟩ | ⟨ht, hkp⟩
        · have HK : Hid (keepP (s.extract fr s.size).data.toList = []) := hkp
          clear hkp
          go_wp2_with (first | (go_at_call 37; refine (sTrim_any _ _ (by simp [ByteArray.size_extract]; unfold maxLen; omega)).mono ?_; rintro e w1 ⟨rfl, rfl⟩) | (at_builtin; refine wp_sapp rfl _ _ rfl _ _ rfl hbuf (trimB (s.extract fr s.size)) rfl (by omega) ?_; intro v2 W2 hbuf2))
          go_round
          case rel => exact ⟨s.size + 1, s.size + 1, q, P, by go_num, rfl, by go_num, by omega, Or.inr ⟨rfl, by rw [hfin.out, HK.out, List.append_nil]; exact hbuf⟩⟩
          case measure => simp [intOf] <;> omega
        · have HK : Hid (keepP (s.extract fr s.size).data.toList = [trimB (s.extract fr s.size)]) := hkp
          clear hkp
          go_wp2_with (first | (go_at_call 37; refine (sTrim_any _ _ (by simp [ByteArray.size_extract]; unfold maxLen; omega)).mono ?_; rintro e w1 ⟨rfl, rfl⟩) | (at_builtin; refine wp_sapp rfl _ _ rfl _ _ rfl hbuf (trimB (s.extract fr s.size)) rfl (by omega) ?_; intro v2 W2 hbuf2))
          go_round
          case rel => exact ⟨s.size + 1, s.size + 1, q, P, by go_num, rfl, by go_num, by omega, Or.inr ⟨rfl, by rw [hfin.out, HK.out]; exact hbuf2⟩⟩
          case measure => simp [intOf] <;> omega
      · have hlt : k < s.size := by omega
        have hkL : k < s.data.toList.length := by rw [len_data]; exact hlt
        have hne : ((k : Int) == (s.size : Int)) = false := by rw [beq_eq_false_iff_ne]; omega
        have Hat : Hid (s[k] = s.data.toList.getD k 0) := at8_eq s k hlt
        have Hrel : Hid (ERel s.data.toList (qN q) fr k P) := hrel
        clear hrel hend
        cases q
        · by_cases h44 : (s[k].toNat : Int) = 44
          · have g44 : ((s[k].toNat : Int) == 44) = true := by simpa using h44
            have hrel2 := erel_comma Hrel.out hkL (by rw [← Hat.out]; exact u8eq h44)
            have HR : Hid (ERel s.data.toList 0 (k + 1) (k + 1) (P ++ [(s.extract fr k).data.toList])) := by
              show ERel _ _ _ _ _
              rw [extract_list]; exact hrel2
            clear h44 hrel2
            rcases keepT (s.extract fr k) with ⟨ht, hkp⟩ | ⟨ht, hkp⟩
            · have HK : Hid (keepP (s.extract fr k).data.toList = []) := hkp
              clear hkp
              go_wp2_with (first | (go_at_call 37; refine (sTrim_any _ _ (by simp [ByteArray.size_extract]; unfold maxLen; omega)).mono ?_; rintro e w1 ⟨rfl, rfl⟩) | (at_builtin; refine wp_sapp rfl _ _ rfl _ _ rfl hbuf (trimB (s.extract fr k)) rfl (by omega) ?_; intro v2 W2 hbuf2))
              go_round
              case rel => exact ⟨k + 1, k + 1, false, P ++ [(s.extract fr k).data.toList], by go_num, rfl, by go_num, by simp; omega, Or.inl ⟨by omega, HR.out, by rw [cleanP_snoc, HK.out, List.append_nil]; exact hbuf⟩⟩
              case measure => simp [intOf] <;> omega
            · have HK : Hid (keepP (s.extract fr k).data.toList = [trimB (s.extract fr k)]) := hkp
              clear hkp
              go_wp2_with (first | (go_at_call 37; refine (sTrim_any _ _ (by simp [ByteArray.size_extract]; unfold maxLen; omega)).mono ?_; rintro e w1 ⟨rfl, rfl⟩) | (at_builtin; refine wp_sapp rfl _ _ rfl _ _ rfl hbuf (trimB (s.extract fr k)) rfl (by omega) ?_; intro v2 W2 hbuf2))
              go_round
              case rel => exact ⟨k + 1, k + 1, false, P ++ [(s.extract fr k).data.toList], by go_num, rfl, by go_num, by simp; omega, Or.inl ⟨by omega, HR.out, by rw [cleanP_snoc, HK.out]; exact hbuf2⟩⟩
              case measure => simp [intOf] <;> omega
          · have g44 : ((s[k].toNat : Int) == 44) = false := by simpa using h44
            have hr := erel_out Hrel.out hkL (by rw [← Hat.out]; exact u8ne h44)
            by_cases h34 : (s[k].toNat : Int) = 34
            · have g34 : ((s[k].toNat : Int) == 34) = true := by simpa using h34
              rw [if_pos (by rw [← Hat.out]; exact u8eq h34)] at hr
              have HR : Hid (ERel s.data.toList 1 fr (k + 1) P) := hr
              clear h44 h34 hr
              go_wp2
              go_round
              case rel => exact ⟨fr, k + 1, true, P, by go_num, rfl, by go_num, by omega, Or.inl ⟨by omega, HR.out, hbuf⟩⟩
              case measure => simp [intOf] <;> omega
            · have g34 : ((s[k].toNat : Int) == 34) = false := by simpa using h34
              rw [if_neg (by rw [← Hat.out]; exact u8ne h34)] at hr
              have HR : Hid (ERel s.data.toList 0 fr (k + 1) P) := hr
              clear h44 h34 hr
              go_wp2
              go_round
              case rel => exact ⟨fr, k + 1, false, P, by go_num, rfl, by go_num, by omega, Or.inl ⟨by omega, HR.out, hbuf⟩⟩
              case measure => simp [intOf] <;> omega
        · have hr := erel_in Hrel.out hkL
          by_cases h34 : (s[k].toNat : Int) = 34
          · have g34 : ((s[k].toNat : Int) == 34) = true := by simpa using h34
            rw [if_pos (by rw [← Hat.out]; exact u8eq h34)] at hr
            have HR : Hid (ERel s.data.toList 0 fr (k + 1) P) := hr
            clear h34 hr
            go_wp2
            go_round
            case rel => exact ⟨fr, k + 1, false, P, by go_num, rfl, by go_num, by omega, Or.inl ⟨by omega, HR.out, hbuf⟩⟩
            case measure => simp [intOf] <;> omega
          · have g34 : ((s[k].toNat : Int) == 34) = false := by simpa using h34
            rw [if_neg (by rw [← Hat.out]; exact u8ne h34)] at hr
            by_cases h92 : (s[k].toNat : Int) = 92
            · have g92 : ((s[k].toNat : Int) == 92) = true := by simpa using h92
              rw [if_pos (by rw [← Hat.out]; exact u8eq h92)] at hr
              by_cases hk1 : (k : Int) + 1 < (s.size : Int)
              · have HR : Hid (ERel s.data.toList 1 fr (k + 2) P) := erel_behind hr (by rw [len_data]; omega)
                clear h34 h92 hr
                go_wp2
                go_round
                case rel => exact ⟨fr, k + 2, true, P, by go_num, rfl, by go_num, by omega, Or.inl ⟨by omega, HR.out, hbuf⟩⟩
                case measure => simp [intOf] <;> omega
              · have HR : Hid (ERel s.data.toList 1 fr (k + 1) P) := by
                  have hz : k + 1 = s.data.toList.length := by rw [len_data]; omega
                  show ERel _ _ _ _ _
                  rw [hz] at hr ⊢
                  exact erel_behind_end hr
                clear h34 h92 hr
                go_wp2
                go_round
                case rel => exact ⟨fr, k + 1, true, P, by go_num, rfl, by go_num, by omega, Or.inl ⟨by omega, HR.out, hbuf⟩⟩
                case measure => simp [intOf] <;> omega
            · have g92 : ((s[k].toNat : Int) == 92) = false := by simpa using h92
              rw [if_neg (by rw [← Hat.out]; exact u8ne h92)] at hr
              have HR : Hid (ERel s.data.toList 1 fr (k + 1) P) := hr
              clear h34 h92 hr
              go_wp2
              go_round
              case rel => exact ⟨fr, k + 1, true, P, by go_num, rfl, by go_num, by omega, Or.inl ⟨by omega, HR.out, hbuf⟩⟩
              case measure => simp [intOf] <;> omega
    · have hgt : ¬ (k : Int) ≤ (s.size : Int) := by omega
      go_wp2
      go_ret
      exact ⟨_, rfl, hbuf⟩
set_option maxHeartbeats 1000000 in
theorem sElements_any (s : ByteArray) (w : World) (hsm : s.size ≤ maxLen) :
    Calls Try.prog 24 #[.string s] w fun e w' => ∃ v, e = .returned v ∧ BufS w w' v (elsB s) := by
  by_cases hs : s.size ≤ 4000
  · exact sElements_small s w hs
  · have hb : Hid (elsB s = []) := els_big (by omega)
    have hnb : (4000 : Int) < (s.size : Int) := by omega
    clear hs
    go_enter Try.func24, Try.ntmps24
    go_wp2
    go_ret
    exact ⟨_, rfl, by rw [hb.out]; exact BufS.start w⟩
end Go.Proofs.Ytaelopjalfapgab
