/-
  The walks over chapter 1: spec.Unquote.
-/
import Derived.Test.YtpjjgdhcidngfaqW8
namespace Go.Proofs.Ytpjjgdhcidngfaq
set_option linter.unusedVariables false
set_option linter.unusedSimpArgs false
open Go.RowKit

set_option maxHeartbeats 1000000 in
theorem sUnquote_any (s : ByteArray) (w : World) (hs : s.size ≤ maxLen) :
    Calls Try.prog 22 #[.string s] w fun e w' => e = .returned (.tuple #[.string (unqB s), .bool (unqOk s)]) ∧ Below w.heap.size w w' := by
  unfold maxLen at hs
  by_cases h2 : (s.size : Int) < 2
  · have hr := unq_none (s := s) (unqO_ends (by omega))
    rw [hr.1, hr.2]
    clear hr
    go_enter Try.func22, Try.ntmps22
    go_wp2
    go_ret2
    exact ⟨rfl, Below.refl _ _⟩
  · by_cases hbig : (8002 : Int) < (s.size : Int)
    · have hr := unq_none (s := s) (unqO_big (by omega))
      rw [hr.1, hr.2]
      clear hr
      go_enter Try.func22, Try.ntmps22
      go_wp2
      go_ret2
      exact ⟨rfl, Below.refl _ _⟩
    · obtain ⟨n, hn⟩ : ∃ n, s.size = n + 2 := ⟨s.size - 2, by omega⟩
      have hl0 : 0 < s.size := by omega
      have hl1 : n + 1 < s.size := by omega
      have e1 : (s.size : Int) - 1 = (n : Int) + 1 := by omega
      have HN : Hid (s.size = n + 2) := hn
      have hnm : n ≤ 8000 := by omega
      by_cases ha : (at8 s 0).toNat = 34
      · by_cases hb : (at8 s (n + 1)).toNat = 34
        · have hA : ((s[0].toNat : Int) != 34) = false := by rw [at8_eq s 0 hl0]; simp; omega
          have hB : ((s[n + 1].toNat : Int) != 34) = false := by rw [at8_eq s (n + 1) hl1]; simp; omega
          have HA : Hid ((at8 s 0).toNat = 34) := ha
          have HB : Hid ((at8 s (n + 1)).toNat = 34) := hb
          clear ha hb hn
          have HT : Hid (inner s = (s.extract 1 (n + 1)).data.toList) := by
            show _ = _
            rw [extract_list]; unfold inner; rw [show s.size - 1 = n + 1 from by have := HN.out; omega]
          have ht0 : (s.extract 1 (n + 1)).size = n := by
            rw [← len_data, ← HT.out, inner_length]; have := HN.out; omega
          go_enter Try.func22, Try.ntmps22
          go_wp2
          generalize s.extract 1 (n + 1) = t at *
          have hAt : Hid (∀ p, (inner s).getD p 0 = at8 t p) := fun p => by rw [HT.out]; rfl
          have Hlen : Hid ((inner s).length = n) := by show _ = _; rw [inner_length]; have := HN.out; omega
          have Ht0 : Hid (t.size = n) := ht0
          have htn1 : t.size ≤ n := by omega
          have htn2 : n ≤ t.size := by omega
          clear HT ht0
          go_loopw [4, 6] (fun v i wr => ∃ (p : Nat) (o : List UInt8), p ≤ n ∧ i = .int .i64 (p : Int) ∧ Buf w wr v o ∧ URel (inner s) p o ∧ o.length ≤ p) (fun _ i _ => n - (intOf i).toNat)
          case atStart => exact ⟨0, [], Nat.zero_le _, rfl, Buf.start w, urel_start _, by simp⟩
          case round =>
            obtain ⟨p, o, hp, rfl, hbuf, hrel0, ho⟩ := hrel
            have hU : Hid (URel (inner s) p o) := hrel0
            obtain ⟨ao, cp, rfl⟩ := hbuf.form
            clear hrel0
            by_cases hlt : p < n
            · have hL : p < t.size := by omega
              have Hat : Hid ((inner s).getD p 0 = at8 t p) := hAt.out p
              by_cases h92 : ((at8 t p).toNat : Int) = 92
              · have g92 : ((t[p].toNat : Int) == 92) = true := by rw [at8_eq t p hL]; simpa using h92
                have e92 : Hid ((inner s).getD p 0 = 92) := by show _ = _; rw [Hat.out]; exact u8_eq h92
                clear h92
                by_cases hend : p + 1 = n
                · have hge : n ≤ p + 1 := by omega
                  have hfin : Hid (unqB s = ⟨#[]⟩ ∧ unqOk s = false) := unq_none (unqO_none (urel_esc_end hU.out (by rw [Hlen.out]; exact hend) e92.out))
                  clear hend
                  go_wp2_with (go_at_call 33; refine (l1plain_any _ _).mono ?_; rintro e w' ⟨rfl, rfl⟩)
                  go_ret2
                  exact ⟨ret_sb hfin.out.1 hfin.out.2, hbuf.below⟩
                · have hL2 : p + 1 < t.size := by omega
                  have hlt2 : p + 1 < n := by omega
                  have hat2 : Hid ((inner s).getD (p + 1) 0 = at8 t (p + 1)) := hAt.out (p + 1)
                  clear hend
                  cases hpl : plain8 (at8 t (p + 1))
                  · have gpl : plainP (t[p + 1].toNat : Int) = false := by rw [at8_eq t (p + 1) hL2]; exact hpl
                    have hfin : Hid (unqB s = ⟨#[]⟩ ∧ unqOk s = false) := unq_none (unqO_none (urel_esc_bad hU.out (by rw [Hlen.out]; exact hlt2) e92.out (by rw [hat2.out]; exact hpl)))
                    clear hpl
                    go_wp2_with (go_at_call 33; refine (l1plain_any _ _).mono ?_; rintro e w' ⟨rfl, rfl⟩)
                    go_ret2
                    exact ⟨ret_sb hfin.out.1 hfin.out.2, hbuf.below⟩
                  · have gpl : plainP (t[p + 1].toNat : Int) = true := by rw [at8_eq t (p + 1) hL2]; exact hpl
                    have hU2 : Hid (URel (inner s) (p + 2) (o ++ [t[p + 1]])) := by
                      have := urel_esc hU.out (by rw [Hlen.out]; exact hlt2) e92.out (by rw [hat2.out]; exact hpl)
                      rw [hat2.out, ← at8_eq t (p + 1) hL2] at this
                      exact this
                    clear hpl
                    go_wp2_with (first | (go_at_call 33; refine (l1plain_any _ _).mono ?_; rintro e w' ⟨rfl, rfl⟩) | (at_builtin; refine wp_app rfl (.tmp 58) (.tmp 62) rfl _ _ rfl hbuf _ t[p + 1] rfl rfl (by omega) ?_; intro v2 W2 hbuf2))
                    go_roundw
                    case rel => exact ⟨p + 2, o ++ [t[p + 1]], by omega, by go_num, hbuf2, hU2.out, by simp; omega⟩
                    case measure => simp [intOf]; omega
              · have g92 : ((t[p].toNat : Int) == 92) = false := by rw [at8_eq t p hL]; simpa using h92
                have n92 : Hid ((inner s).getD p 0 ≠ 92) := by show _ ≠ _; rw [Hat.out]; exact u8_ne h92
                clear h92
                by_cases h34 : ((at8 t p).toNat : Int) = 34
                · have g34 : ((t[p].toNat : Int) == 34) = true := by rw [at8_eq t p hL]; simpa using h34
                  have hfin : Hid (unqB s = ⟨#[]⟩ ∧ unqOk s = false) := unq_none (unqO_none (urel_bad hU.out (by rw [Hlen.out]; exact hlt) n92.out (Or.inl (by rw [Hat.out]; exact u8_eq h34))))
                  clear h34
                  go_wp2_with (go_at_call 33; refine (l1plain_any _ _).mono ?_; rintro e w' ⟨rfl, rfl⟩)
                  go_ret2
                  exact ⟨ret_sb hfin.out.1 hfin.out.2, hbuf.below⟩
                · have g34 : ((t[p].toNat : Int) == 34) = false := by rw [at8_eq t p hL]; simpa using h34
                  have n34 : Hid ((inner s).getD p 0 ≠ 34) := by show _ ≠ _; rw [Hat.out]; exact u8_ne h34
                  clear h34
                  cases hpl : plain8 (at8 t p)
                  · have gpl : plainP (t[p].toNat : Int) = false := by rw [at8_eq t p hL]; exact hpl
                    have hfin : Hid (unqB s = ⟨#[]⟩ ∧ unqOk s = false) := unq_none (unqO_none (urel_bad hU.out (by rw [Hlen.out]; exact hlt) n92.out (Or.inr (by rw [Hat.out]; exact hpl))))
                    clear hpl
                    go_wp2_with (go_at_call 33; refine (l1plain_any _ _).mono ?_; rintro e w' ⟨rfl, rfl⟩)
                    go_ret2
                    exact ⟨ret_sb hfin.out.1 hfin.out.2, hbuf.below⟩
                  · have gpl : plainP (t[p].toNat : Int) = true := by rw [at8_eq t p hL]; exact hpl
                    have hU2 : Hid (URel (inner s) (p + 1) (o ++ [t[p]])) := by
                      have := urel_plain hU.out (by rw [Hlen.out]; exact hlt) n92.out n34.out (by rw [Hat.out]; exact hpl)
                      rw [Hat.out, ← at8_eq t p hL] at this
                      exact this
                    clear hpl
                    go_wp2_with (first | (go_at_call 33; refine (l1plain_any _ _).mono ?_; rintro e w' ⟨rfl, rfl⟩) | (at_builtin; refine wp_app rfl (.tmp 58) (.tmp 62) rfl _ _ rfl hbuf _ t[p] rfl rfl (by omega) ?_; intro v2 W2 hbuf2))
                    go_roundw
                    case rel => exact ⟨p + 1, o ++ [t[p]], by omega, by go_num, hbuf2, hU2.out, by simp; omega⟩
                    case measure => simp [intOf]; omega
            · have hpn : n ≤ p := by omega
              have kb := hbuf.text
              have hend := urel_end hU.out (by have := Hlen.out; omega)
              by_cases hlong : (4000 : Int) < (o.length : Int)
              · have hfin : Hid (unqB s = ⟨#[]⟩ ∧ unqOk s = false) := unq_none (unqO_long (fun o' h' => by rw [hend] at h'; injection h' with h'; subst h'; omega))
                clear hend
                go_wp2_with (go_at_call 33; refine (l1plain_any _ _).mono ?_; rintro e w' ⟨rfl, rfl⟩)
                go_ret2
                exact ⟨ret_sb hfin.out.1 hfin.out.2, hbuf.below⟩
              · have hfin : Hid (unqB s = ⟨o.toArray⟩ ∧ unqOk s = true) := by
                  have hN := HN.out
                  refine unq_some (unqO_some (by omega) HA.out ?_ hend (by omega))
                  rw [show s.size - 1 = n + 1 from by omega]
                  exact HB.out
                clear hend
                go_wp2
                go_ret2
                exact ⟨ret_sb hfin.out.1 hfin.out.2, hbuf.below⟩
        · have hA : ((s[0].toNat : Int) != 34) = false := by rw [at8_eq s 0 hl0]; simp; omega
          have hB : ((s[n + 1].toNat : Int) != 34) = true := by rw [at8_eq s (n + 1) hl1]; simp; omega
          have hr := unq_none (s := s) (unqO_ends (by rw [show s.size - 1 = n + 1 from by omega]; omega))
          rw [hr.1, hr.2]
          clear ha hb hn hr
          go_enter Try.func22, Try.ntmps22
          go_wp2
          go_ret2
          exact ⟨rfl, Below.refl _ _⟩
      · have hA : ((s[0].toNat : Int) != 34) = true := by rw [at8_eq s 0 hl0]; simp; omega
        have hr := unq_none (s := s) (unqO_ends (by omega))
        rw [hr.1, hr.2]
        clear ha hn hr
        go_enter Try.func22, Try.ntmps22
        go_wp2
        go_ret2
        exact ⟨rfl, Below.refl _ _⟩
end Go.Proofs.Ytpjjgdhcidngfaq
