/-
  The walks over chapter 1: Unquote.
-/
import Derived.Test.YtpjjgdhcidngfaaW7
import Derived.Test.YtpjjgdhcidngfaaM8
namespace Go.Proofs.Ytpjjgdhcidngfaa
set_option linter.unusedVariables false
set_option linter.unusedSimpArgs false
open Go.RowKit

theorem u8_ne {b c : UInt8} (h : (b.toNat : Int) ≠ (c.toNat : Int)) : b ≠ c := fun e => h (by rw [e])
theorem u8_eq {b c : UInt8} (h : (b.toNat : Int) = (c.toNat : Int)) : b = c := UInt8.toNat_inj.1 (by omega)

set_option maxHeartbeats 1000000 in
theorem Unquote_any (s : ByteArray) (w : World) (hs : s.size ≤ maxLen) :
    Calls Try.prog 20 #[.string s] w fun e w' => e = .returned (.tuple #[.string (unqB s), .bool (unqOk s)]) ∧ Below w.heap.size w w' := by
  unfold maxLen at hs
  by_cases h2 : s.size < 2
  · have hr := unq_none (s := s) (unqO_ends (by omega))
    have h2' : (s.size : Int) - 1 < 1 := by omega
    rw [hr.1, hr.2]
    clear hr
    go_enter Try.func20, Try.ntmps20
    go_wp2
    go_ret2
    exact ⟨rfl, Below.refl _ _⟩
  · obtain ⟨n, hn⟩ : ∃ n, s.size = n + 2 := ⟨s.size - 2, by omega⟩
    have hl0 : 0 < s.size := by omega
    have hl1 : n + 1 < s.size := by omega
    have e1 : (s.size : Int) - 1 = (n : Int) + 1 := by omega
    have hn1 : ¬ ((n : Int) + 1 < 1) := by omega
    have HN : Hid (s.size = n + 2) := hn
    by_cases ha : (at8 s 0).toNat = 34
    · by_cases hb : (at8 s (n + 1)).toNat = 34
      · have hA : ((s[0].toNat : Int) != 34) = false := by rw [at8_eq s 0 hl0]; simp; omega
        have hB : ((s[n + 1].toNat : Int) != 34) = false := by rw [at8_eq s (n + 1) hl1]; simp; omega
        have HA : Hid ((at8 s 0).toNat = 34) := ha
        have HB : Hid ((at8 s (n + 1)).toNat = 34) := hb
        have hnm : n ≤ 9223372036854775805 := by omega
        clear ha hb hn
        go_enter Try.func20, Try.ntmps20
        go_wp2
        go_loopw [5, 6] (fun v i wr => ∃ (p : Nat) (o : List UInt8), p ≤ n ∧ i = .int .i64 ((p : Int) + 1) ∧ Buf w wr v o ∧ URel (inner s) p o ∧ o.length ≤ 4000) (fun _ i _ => n + 1 - (intOf i).toNat)
        case atStart => exact ⟨0, [], Nat.zero_le _, rfl, Buf.start w, urel_start _, by simp⟩
        case round =>
          obtain ⟨p, o, hp, rfl, hbuf, hrel0, ho⟩ := hrel
          have hU : Hid (URel (inner s) p o) := hrel0
          obtain ⟨ao, cp, rfl⟩ := hbuf.form
          clear hrel0
          by_cases hlt : p < n
          · have hL : p + 1 < s.size := by omega
            have hat : (inner s).getD p 0 = at8 s (p + 1) := inner_at s p (by have := HN.out; omega)
            have hlen : (inner s).length = n := by rw [inner_length]; have := HN.out; omega
            have Hat : Hid ((inner s).getD p 0 = at8 s (p + 1)) := hat
            have Hlen : Hid ((inner s).length = n) := hlen
            clear hat hlen
            by_cases h92 : ((at8 s (p + 1)).toNat : Int) = 92
            · have g92 : ((s[p + 1].toNat : Int) == 92) = true := by rw [at8_eq s (p + 1) hL]; simpa using h92
              have e92 : Hid ((inner s).getD p 0 = 92) := by show _ = _; rw [Hat.out]; exact u8_eq h92
              clear h92
              by_cases hend : p + 1 = n
              · have hge : n ≤ p + 1 := by omega
                have hfin : Hid (unqB s = ⟨#[]⟩ ∧ unqOk s = false) := unq_none (unqO_none (urel_esc_end hU.out (by rw [Hlen.out]; exact hend) e92.out))
                clear hend
                go_wp2_with (go_at_call 38; refine (plainByte_any _ _).mono ?_; rintro e w' ⟨rfl, rfl⟩)
                go_ret2
                exact ⟨ret_sb hfin.out.1 hfin.out.2, hbuf.below⟩
              · have hL2 : p + 2 < s.size := by omega
                have hlt2 : p + 1 < n := by omega
                have hat2 : Hid ((inner s).getD (p + 1) 0 = at8 s (p + 2)) := inner_at s (p + 1) (by have := HN.out; omega)
                clear hend
                cases hpl : plain8 (at8 s (p + 2))
                · have gpl : plainP (s[p + 2].toNat : Int) = false := by rw [at8_eq s (p + 2) hL2]; exact hpl
                  have hfin : Hid (unqB s = ⟨#[]⟩ ∧ unqOk s = false) := unq_none (unqO_none (urel_esc_bad hU.out (by rw [Hlen.out]; exact hlt2) e92.out (by rw [hat2.out]; exact hpl)))
                  clear hpl
                  go_wp2_with (go_at_call 38; refine (plainByte_any _ _).mono ?_; rintro e w' ⟨rfl, rfl⟩)
                  go_ret2
                  exact ⟨ret_sb hfin.out.1 hfin.out.2, hbuf.below⟩
                · have gpl : plainP (s[p + 2].toNat : Int) = true := by rw [at8_eq s (p + 2) hL2]; exact hpl
                  by_cases hfull : o.length = 4000
                  · have hfull' : 4000 ≤ o.length := by omega
                    have hfin : Hid (unqB s = ⟨#[]⟩ ∧ unqOk s = false) := unq_none (unqO_long (fun o' h' => by have := urel_long hU.out (by rw [Hlen.out]; exact hlt) o' h'; omega))
                    clear hpl hfull
                    go_wp2_with (go_at_call 38; refine (plainByte_any _ _).mono ?_; rintro e w' ⟨rfl, rfl⟩)
                    go_ret2
                    exact ⟨ret_sb hfin.out.1 hfin.out.2, hbuf.below⟩
                  · have hroom : o.length < 4000 := by omega
                    have hU2 : Hid (URel (inner s) (p + 2) (o ++ [s[p + 2]])) := by
                      have := urel_esc hU.out (by rw [Hlen.out]; exact hlt2) e92.out (by rw [hat2.out]; exact hpl)
                      rw [hat2.out, ← at8_eq s (p + 2) hL2] at this
                      exact this
                    clear hpl hfull
                    go_wp2_with (first | (go_at_call 38; refine (plainByte_any _ _).mono ?_; rintro e w' ⟨rfl, rfl⟩) | (at_builtin; refine wp_app rfl (.tmp 51) (.tmp 55) rfl _ _ rfl hbuf _ s[p + 2] rfl rfl (by omega) ?_; intro v2 W2 hbuf2))
                    go_roundw
                    case rel => exact ⟨p + 2, o ++ [s[p + 2]], by omega, by go_num, hbuf2, hU2.out, by simp; omega⟩
                    case measure => simp [intOf]; omega
            · have g92 : ((s[p + 1].toNat : Int) == 92) = false := by rw [at8_eq s (p + 1) hL]; simpa using h92
              have n92 : Hid ((inner s).getD p 0 ≠ 92) := by show _ ≠ _; rw [Hat.out]; exact u8_ne h92
              clear h92
              by_cases h34 : ((at8 s (p + 1)).toNat : Int) = 34
              · have g34 : ((s[p + 1].toNat : Int) == 34) = true := by rw [at8_eq s (p + 1) hL]; simpa using h34
                have hfin : Hid (unqB s = ⟨#[]⟩ ∧ unqOk s = false) := unq_none (unqO_none (urel_bad hU.out (by rw [Hlen.out]; exact hlt) n92.out (Or.inl (by rw [Hat.out]; exact u8_eq h34))))
                clear h34
                go_wp2_with (go_at_call 38; refine (plainByte_any _ _).mono ?_; rintro e w' ⟨rfl, rfl⟩)
                go_ret2
                exact ⟨ret_sb hfin.out.1 hfin.out.2, hbuf.below⟩
              · have g34 : ((s[p + 1].toNat : Int) == 34) = false := by rw [at8_eq s (p + 1) hL]; simpa using h34
                have n34 : Hid ((inner s).getD p 0 ≠ 34) := by show _ ≠ _; rw [Hat.out]; exact u8_ne h34
                clear h34
                cases hpl : plain8 (at8 s (p + 1))
                · have gpl : plainP (s[p + 1].toNat : Int) = false := by rw [at8_eq s (p + 1) hL]; exact hpl
                  have hfin : Hid (unqB s = ⟨#[]⟩ ∧ unqOk s = false) := unq_none (unqO_none (urel_bad hU.out (by rw [Hlen.out]; exact hlt) n92.out (Or.inr (by rw [Hat.out]; exact hpl))))
                  clear hpl
                  go_wp2_with (go_at_call 38; refine (plainByte_any _ _).mono ?_; rintro e w' ⟨rfl, rfl⟩)
                  go_ret2
                  exact ⟨ret_sb hfin.out.1 hfin.out.2, hbuf.below⟩
                · have gpl : plainP (s[p + 1].toNat : Int) = true := by rw [at8_eq s (p + 1) hL]; exact hpl
                  by_cases hfull : o.length = 4000
                  · have hfull' : 4000 ≤ o.length := by omega
                    have hfin : Hid (unqB s = ⟨#[]⟩ ∧ unqOk s = false) := unq_none (unqO_long (fun o' h' => by have := urel_long hU.out (by rw [Hlen.out]; exact hlt) o' h'; omega))
                    clear hpl hfull
                    go_wp2_with (go_at_call 38; refine (plainByte_any _ _).mono ?_; rintro e w' ⟨rfl, rfl⟩)
                    go_ret2
                    exact ⟨ret_sb hfin.out.1 hfin.out.2, hbuf.below⟩
                  · have hroom : o.length < 4000 := by omega
                    have hU2 : Hid (URel (inner s) (p + 1) (o ++ [s[p + 1]])) := by
                      have := urel_plain hU.out (by rw [Hlen.out]; exact hlt) n92.out n34.out (by rw [Hat.out]; exact hpl)
                      rw [Hat.out, ← at8_eq s (p + 1) hL] at this
                      exact this
                    clear hpl hfull
                    go_wp2_with (first | (go_at_call 38; refine (plainByte_any _ _).mono ?_; rintro e w' ⟨rfl, rfl⟩) | (at_builtin; refine wp_app rfl (.tmp 51) (.tmp 55) rfl _ _ rfl hbuf _ s[p + 1] rfl rfl (by omega) ?_; intro v2 W2 hbuf2))
                    go_roundw
                    case rel => exact ⟨p + 1, o ++ [s[p + 1]], by omega, by go_num, hbuf2, hU2.out, by simp; omega⟩
                    case measure => simp [intOf]; omega
          · have hpn : n ≤ p := by omega
            have kb := hbuf.text
            have hfin : Hid (unqB s = ⟨o.toArray⟩ ∧ unqOk s = true) := by
              have hlen : (inner s).length = n := by rw [inner_length]; have := HN.out; omega
              have hN := HN.out
              refine unq_some (unqO_some (by omega) HA.out ?_ (urel_end hU.out (by omega)) ho)
              rw [show s.size - 1 = n + 1 from by omega]
              exact HB.out
            go_wp2
            go_ret2
            exact ⟨ret_sb hfin.out.1 hfin.out.2, hbuf.below⟩
      · have hA : ((s[0].toNat : Int) != 34) = false := by rw [at8_eq s 0 hl0]; simp; omega
        have hB : ((s[n + 1].toNat : Int) != 34) = true := by rw [at8_eq s (n + 1) hl1]; simp; omega
        have hr := unq_none (s := s) (unqO_ends (by rw [show s.size - 1 = n + 1 from by omega]; omega))
        rw [hr.1, hr.2]
        clear ha hb hn hr
        go_enter Try.func20, Try.ntmps20
        go_wp2
        go_ret2
        exact ⟨rfl, Below.refl _ _⟩
    · have hA : ((s[0].toNat : Int) != 34) = true := by rw [at8_eq s 0 hl0]; simp; omega
      have hr := unq_none (s := s) (unqO_ends (by omega))
      rw [hr.1, hr.2]
      clear ha hn hr
      go_enter Try.func20, Try.ntmps20
      go_wp2
      go_ret2
      exact ⟨rfl, Below.refl _ _⟩
end Go.Proofs.Ytpjjgdhcidngfaa
