/-
  The walks over chapter 1: Quote.
-/
import Derived.Test.YtohdfdbpmmeidaaDoorA8
import Derived.Test.YtohdfdbpmmeidaaDoorM7
namespace Go.Proofs.YtohdfdbpmmeidaaDoor
set_option linter.unusedVariables false
set_option linter.unusedSimpArgs false
open Go.RowKit

theorem ret_sb {s t : ByteArray} {a b : Bool} (h : t = s) (h' : b = a) : Ending.returned (.tuple #[.string s, .bool a]) = .returned (.tuple #[.string t, .bool b]) := by rw [h, h']
set_option maxHeartbeats 400000 in
theorem plainByte_any (n : Int) (w : World) :
    Calls Tryd.prog 26 #[.int .u8 n] w fun e w' => e = .returned (.bool (plainP n)) ∧ w' = w := by
  cases h : (n == 9)
  · by_cases h2 : 32 ≤ n
    · rw [plainP_hi h h2]
      go_enter Tryd.func26, Tryd.ntmps26
      go_wp2
      go_ret
      exact ⟨rfl, rfl⟩
    · rw [plainP_lo h h2]
      have h3 : decide (32 ≤ n) = false := by simpa using h2
      go_enter Tryd.func26, Tryd.ntmps26
      go_wp2
      go_ret
      exact ⟨rfl, rfl⟩
  · rw [plainP_yes h]
    go_enter Tryd.func26, Tryd.ntmps26
    go_wp2
    go_ret
    exact ⟨rfl, rfl⟩
set_option maxHeartbeats 400000 in
theorem quoteSign_any (n : Int) (w : World) :
    Calls Tryd.prog 27 #[.int .u8 n] w fun e w' => e = .returned (.bool (quoP n)) ∧ w' = w := by
  cases h : (n == 34)
  · rw [quoP_no h]
    go_enter Tryd.func27, Tryd.ntmps27
    go_wp2
    go_ret
    exact ⟨rfl, rfl⟩
  · rw [quoP_yes h]
    go_enter Tryd.func27, Tryd.ntmps27
    go_wp2
    go_ret
    exact ⟨rfl, rfl⟩
set_option maxHeartbeats 1000000 in
theorem Quote_any (s : ByteArray) (w : World) (hs : s.size ≤ maxLen) :
    Calls Tryd.prog 17 #[.string s] w fun e w' => e = .returned (.tuple #[.string (quoB s), .bool (quoOk s)]) ∧ Below w.heap.size w w' := by
  unfold maxLen at hs
  by_cases hbig : (4000 : Int) < (s.size : Int)
  · have hr := quo_big (s := s) (by omega)
    rw [hr.1, hr.2]
    clear hr
    go_enter Tryd.func17, Tryd.ntmps17
    go_wp2
    go_ret2
    exact ⟨rfl, Below.refl _ _⟩
  · have HB : Hid (Buf w (w.alloc (.cells #[.int .u8 34] 5)) (.slice (some ⟨w.heap.size, 0, none⟩) 1 1) [34]) := Buf.one w 34 34 rfl
    go_enter Tryd.func17, Tryd.ntmps17
    go_wp2
    go_loopw [4, 12] (fun v i wr => ∃ k : Nat, k ≤ s.size ∧ i = .int .i64 k ∧ Buf w wr v (34 :: escL (s.data.toList.take k)) ∧ ∀ j, j < k → plain8 (at8 s j) = true) (fun _ i _ => s.size - (intOf i).toNat)
    case atStart => exact ⟨0, Nat.zero_le _, rfl, HB.out, fun j hj => by omega⟩
    case round =>
      obtain ⟨k, hk, rfl, hbuf, hall⟩ := hrel
      have Hall : Hid (∀ j, j < k → plain8 (at8 s j) = true) := hall
      have hlen : (34 :: escL (s.data.toList.take k)).length ≤ 8001 := by
        have := escL_len (s.data.toList.take k)
        have h2 : (s.data.toList.take k).length ≤ k := List.length_take_le _ _
        simp only [List.length_cons]
        omega
      have hlen2 : (34 :: escL (s.data.toList.take k) ++ [92]).length ≤ 8002 := by
        rw [List.length_append, List.length_singleton]
        omega
      clear hall HB
      by_cases hlt : k < s.size
      · cases hp0 : plain8 (at8 s k)
        · have hp : plainP (s[k].toNat : Int) = false := by rw [at8_eq s k hlt]; exact hp0
          have hfin : Hid (quoB s = ⟨#[]⟩ ∧ quoOk s = false) := quo_no hlt hp0
          clear hp0
          go_wp2_with (go_at_call 26; refine (plainByte_any _ _).mono ?_; rintro e w' ⟨rfl, rfl⟩)
          go_ret2
          exact ⟨ret_sb hfin.out.1 hfin.out.2, hbuf.below⟩
        · have hp : plainP (s[k].toNat : Int) = true := by rw [at8_eq s k hlt]; exact hp0
          have Hp : Hid (plain8 (at8 s k) = true) := hp0
          cases hq0 : quo8 (at8 s k)
          · have hq : quoP (s[k].toNat : Int) = false := by rw [at8_eq s k hlt]; exact hq0
            have hR : Hid (34 :: escL (s.data.toList.take (k + 1)) = 34 :: escL (s.data.toList.take k) ++ [s[k]]) := by
              show _ = _
              rw [take_succ8 s k hlt, escL_snoc, at8_eq s k hlt, esc8, if_neg (by simp [hq0])]; simp
            clear hq0 hp0
            go_wp2_with (first | (go_at_call 26; refine (plainByte_any _ _).mono ?_; rintro e w' ⟨rfl, rfl⟩) | (go_at_call 27; refine (quoteSign_any _ _).mono ?_; rintro e w' ⟨rfl, rfl⟩) | (at_builtin; refine wp_app rfl (.tmp 27) (.tmp 31) rfl _ _ rfl hbuf _ s[k] rfl rfl (by omega) ?_; intro v2 W2 hbuf2))
            go_roundw
            case rel => exact ⟨k + 1, by omega, by go_num, by rw [hR.out]; exact hbuf2, all_succ Hall.out Hp.out⟩
            case measure => simp [intOf]; omega
          · have hq : quoP (s[k].toNat : Int) = true := by rw [at8_eq s k hlt]; exact hq0
            have hR : Hid (34 :: escL (s.data.toList.take (k + 1)) = 34 :: escL (s.data.toList.take k) ++ [92] ++ [s[k]]) := by
              show _ = _
              rw [take_succ8 s k hlt, escL_snoc, at8_eq s k hlt, esc8, if_pos hq0]; simp
            clear hq0 hp0
            go_wp2_with (first | (go_at_call 26; refine (plainByte_any _ _).mono ?_; rintro e w' ⟨rfl, rfl⟩) | (go_at_call 27; refine (quoteSign_any _ _).mono ?_; rintro e w' ⟨rfl, rfl⟩) | (at_builtin; refine wp_app rfl (.tmp 24) (.tmp 25) rfl _ _ rfl hbuf 92 92 rfl rfl (by omega) ?_; intro v1 W1 hbuf1) | (at_builtin; refine wp_app rfl (.tmp 27) (.tmp 31) rfl _ _ rfl hbuf1 _ s[k] rfl rfl (by omega) ?_; intro v2 W2 hbuf2))
            go_roundw
            case rel => exact ⟨k + 1, by omega, by go_num, by rw [hR.out]; exact hbuf2, all_succ Hall.out Hp.out⟩
            case measure => simp [intOf]; omega
      · obtain rfl : k = s.size := by omega
        have ht : s.data.toList.take s.size = s.data.toList := List.take_of_length_le (by rw [len_data]; exact Nat.le_refl _)
        clear hlen2
        rw [ht] at hbuf hlen
        have hfin : Hid (quoB s = ⟨(34 :: escL s.data.toList ++ [34]).toArray⟩ ∧ quoOk s = true) := quo_yes (by omega) Hall.out
        go_wp2_with (at_builtin; refine wp_app rfl (.tmp 34) (.tmp 35) rfl _ _ rfl hbuf 34 34 rfl rfl (by omega) ?_; intro v2 W2 hbuf2; have kb := hbuf2.text)
        go_ret2
        exact ⟨ret_sb hfin.out.1 hfin.out.2, hbuf2.below⟩
end Go.Proofs.YtohdfdbpmmeidaaDoor
