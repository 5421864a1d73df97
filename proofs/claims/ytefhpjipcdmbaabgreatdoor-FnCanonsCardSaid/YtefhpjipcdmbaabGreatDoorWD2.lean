/-
  The walks over the drawing functions, more.
-/
import Derived.Test.YtefhpjipcdmbaabGreatDoorWD
namespace Go.Proofs.YtefhpjipcdmbaabGreatDoor
set_option linter.unusedVariables false
set_option linter.unusedSimpArgs false
open Go.RowKit

set_option maxHeartbeats 1000000 in
theorem l1Below_any (p : Nat) (n : Int) (w : World) (hd : Drw w p) (hn : n ≤ 1099511627776) :
    Calls Tryz.prog 42 #[.pointer (some ⟨p, 0, none⟩), .int .i64 n] w fun e w' => (∃ m : Nat, (0 < n → (m : Int) < n) ∧ (n ≤ 0 → m = 0) ∧ m ≤ 4294967295 ∧ e = .returned (.int .i64 (m : Int))) ∧ Kp p w w' ∧ Drw w' p := by
  by_cases h0 : n ≤ 0
  · go_enter Tryz.func42, Tryz.ntmps42
    go_wp2
    go_ret
    exact ⟨⟨0, fun h => by omega, fun _ => rfl, by omega, rfl⟩, Kp.refl _ _, hd⟩
  · by_cases h1 : n ≤ 256
    · go_enter Tryz.func42, Tryz.ntmps42
      go_wp2_with fail
      refine (l1Byte_any p _ hd).mono ?_
      rintro e w1 ⟨⟨n1, hn1, rfl⟩, hk1, hd1⟩
      obtain ⟨q, hq⟩ : ∃ q : Nat, (n1 : Int) % n = (q : Int) := ⟨((n1 : Int) % n).toNat, by have := Int.emod_nonneg (n1 : Int) (show n ≠ 0 by omega); omega⟩
      have hlt := Int.emod_lt_of_pos (n1 : Int) (show 0 < n by omega)
      have hQ : Hid ((n1 : Int) % n = (q : Int)) := hq
      have hz : (n == 0) = false := by rw [beq_eq_false_iff_ne]; omega
      go_wp2
      go_ret
      exact ⟨⟨q, fun _ => by rw [← hQ.out]; exact hlt, fun h => by omega, by have := hQ.out; omega, by first | rfl | exact ret_int hQ.out.symm⟩, hk1, hd1⟩
    · go_enter Tryz.func42, Tryz.ntmps42
      go_wp2_with fail
      refine (l1Byte_any p _ hd).mono ?_
      rintro e w1 ⟨⟨n1, hn1, rfl⟩, hk1, hd1⟩
      go_wp2_with fail
      refine (l1Byte_any p _ hd1).mono ?_
      rintro e w2 ⟨⟨n2, hn2, rfl⟩, hk2, hd2⟩
      go_wp2_with fail
      refine (l1Byte_any p _ hd2).mono ?_
      rintro e w3 ⟨⟨n3, hn3, rfl⟩, hk3, hd3⟩
      go_wp2_with fail
      refine (l1Byte_any p _ hd3).mono ?_
      rintro e w4 ⟨⟨n4, hn4, rfl⟩, hk4, hd4⟩
      have hlt := Int.emod_lt_of_pos ((n1 : Int) * 16777216 + (n2 : Int) * 65536 + (n3 : Int) * 256 + (n4 : Int)) (show 0 < n by omega)
      have hge := Int.emod_nonneg ((n1 : Int) * 16777216 + (n2 : Int) * 65536 + (n3 : Int) * 256 + (n4 : Int)) (show n ≠ 0 by omega)
      have hle : ((n1 : Int) * 16777216 + (n2 : Int) * 65536 + (n3 : Int) * 256 + (n4 : Int)) % n ≤ 4294967295 := by
        have hX : 0 ≤ (n1 : Int) * 16777216 + (n2 : Int) * 65536 + (n3 : Int) * 256 + (n4 : Int) := by omega
        have hY : (n1 : Int) * 16777216 + (n2 : Int) * 65536 + (n3 : Int) * 256 + (n4 : Int) ≤ 4294967295 := by omega
        generalize (n1 : Int) * 16777216 + (n2 : Int) * 65536 + (n3 : Int) * 256 + (n4 : Int) = X at *
        have h5 := Int.emod_add_mul_ediv X n
        have h6 : 0 ≤ n * (X / n) := Int.mul_nonneg (by omega) (Int.ediv_nonneg hX (by omega))
        omega
      obtain ⟨q, hq⟩ : ∃ q : Nat, ((n1 : Int) * 16777216 + (n2 : Int) * 65536 + (n3 : Int) * 256 + (n4 : Int)) % n = (q : Int) := ⟨(((n1 : Int) * 16777216 + (n2 : Int) * 65536 + (n3 : Int) * 256 + (n4 : Int)) % n).toNat, by omega⟩
      have hQ : Hid (((n1 : Int) * 16777216 + (n2 : Int) * 65536 + (n3 : Int) * 256 + (n4 : Int)) % n = (q : Int)) := hq
      have hz : (n == 0) = false := by rw [beq_eq_false_iff_ne]; omega
      go_wp2
      go_ret
      exact ⟨⟨q, fun _ => by rw [← hQ.out]; exact hlt, fun h => by omega, by have := hQ.out; omega, by first | rfl | exact ret_int hQ.out.symm⟩, ((hk1.trans hk2).trans hk3).trans hk4, hd4⟩
theorem mem_snoc {l m : List UInt8} {y : UInt8} (h : ∀ x ∈ l, x ∈ m) (hy : y ∈ m) : ∀ x ∈ l ++ [y], x ∈ m := by
  intro x hx
  rcases List.mem_append.1 hx with h1 | h1
  · exact h x h1
  · simp at h1
    subst h1
    exact hy
set_option maxHeartbeats 1000000 in
theorem l1Once_any (p : Nat) (n : Int) (w : World) (hd : Drw w p) (hn : n ≤ 1099511627776) :
    Calls Tryz.prog 85 #[.pointer (some ⟨p, 0, none⟩), .int .i64 n] w fun e w' => (∃ b : Bool, e = .returned (.bool b)) ∧ Kp p w w' ∧ Drw w' p := by
  go_enter Tryz.func85, Tryz.ntmps85
  go_wp2_with fail
  refine (l1Below_any p n _ hd hn).mono ?_
  rintro e w1 ⟨⟨m, _, _, _, rfl⟩, hk1, hd1⟩
  go_wp2
  go_ret
  exact ⟨⟨_, rfl⟩, hk1, hd1⟩
set_option maxHeartbeats 1000000 in
theorem l1of_any (p n : Nat) (s : ByteArray) (w : World) (hd : Drw w p) (hn : n ≤ 1048576) (hs0 : 0 < s.size) (hs1 : s.size ≤ 1048576) :
    Calls Tryz.prog 44 #[.pointer (some ⟨p, 0, none⟩), .int .i64 (n : Int), .string s] w fun e w' => (∃ l : List UInt8, l.length = n ∧ (∀ x ∈ l, x ∈ s.data.toList) ∧ e = .returned (.string ⟨l.toArray⟩)) ∧ Kp p w w' ∧ Drw w' p := by
  go_enter Tryz.func44, Tryz.ntmps44
  go_wp2_with fail
  go_loopw [7, 8] (fun v i wr => ∃ (l : List UInt8), l.length ≤ n ∧ i = .int .i64 (l.length : Int) ∧ (∀ x ∈ l, x ∈ s.data.toList) ∧ DBuf p w wr v l) (fun _ i _ => n - (intOf i).toNat)
  case atStart => exact ⟨[], by simp, rfl, (by intro x hx; cases hx), DBuf.start hd⟩
  case round =>
    obtain ⟨l, hl, rfl, hmem, hbuf⟩ := hrel
    have Hmem : Hid (∀ x ∈ l, x ∈ s.data.toList) := hmem
    clear hmem hd
    by_cases hlt : l.length < n
    · go_wp2_with fail
      refine (l1Below_any p (s.size : Int) _ hbuf.st (by omega)).mono ?_
      rintro e w1 ⟨⟨m, hm, _, _, rfl⟩, hk1, hd1⟩
      have hb1 := hbuf.draw hk1 hd1
      have hms : m < s.size := by have := hm (by omega); omega
      clear hm hbuf
      have HX : Hid (s[m] ∈ s.data.toList) := by
        show s.data[m] ∈ s.data.toList
        simp
      go_wp2_with (at_builtin; refine wp_dapp rfl (.tmp 14) (.tmp 21) rfl _ _ rfl hb1 _ s[m] rfl rfl (by omega) ?_; intro v2 W2 hbuf2)
      go_roundw
      case rel => exact ⟨l ++ [s[m]], by simp; omega, by simp, mem_snoc Hmem.out HX.out, hbuf2⟩
      case measure => simp [intOf]; omega
    · have kb := hbuf.text
      go_wp2
      go_ret
      exact ⟨⟨l, by omega, Hmem.out, rfl⟩, hbuf.kp, hbuf.st⟩
set_option maxRecDepth 100000 in
set_option maxHeartbeats 1000000 in
theorem l1New_any (a : Option Addr) (len cap : Nat) (w : World) (hcode : CodeRow w w.heap.size a len) (hlen : len ≤ maxLen) :
    Calls Tryz.prog 40 #[.slice a len cap] w fun e w' => e = .returned (.pointer (some ⟨w.heap.size, 0, none⟩)) ∧ Below w.heap.size w w' ∧ Drw w' w.heap.size := by
  go_enter Tryz.func40, Tryz.ntmps40
  go_wp2_with fail
  go_loop [3, 4] (fun h i => ∃ (k : Nat) (x : Int), k ≤ len ∧ i = .int .i64 (k : Int) ∧ h = .int .i64 x) (fun _ i => len - (intOf i).toNat)
  case atStart => exact ⟨0, _, Nat.zero_le _, rfl, rfl⟩
  case round =>
    obtain ⟨k, x, hk, rfl, rfl⟩ := hrel
    have Hcode : Hid (CodeRow w w.heap.size a len) := hcode
    by_cases hlt : k < len ∧ k < 4000
    · obtain ⟨hl1, hl2⟩ := hlt
      rcases hcode with hl0 | ⟨b, off, rfl, hbp, hc⟩
      · omega
      · obtain ⟨z, hz, hcz⟩ := hc k hl1
        have hI : (k : Int) < (len : Int) := by omega
        clear hc
        go_wp2
        go_round
        case rel => exact ⟨k + 1, _, by omega, by go_num, rfl⟩
        case measure => simp [intOf]; omega
    · have hend : Hid (Drw (w.alloc (.cells #[.slice a len cap, .int .i64 0, .int .i64 x] 68)) w.heap.size) :=
        ⟨a, len, cap, 0, x, heap_alloc_new w _, hcode.kept (fun k hk => Below.heap_alloc _ _ _ hk), Nat.zero_le _, hlen⟩
      have hway : (¬ k < len) ∨ (k < len ∧ ¬ k < 4000 ∧ decide ((k : Int) < 4000) = false) := by
        by_cases h : k < len
        · right; exact ⟨h, by omega, by simp; omega⟩
        · left; exact h
      clear hcode hlt
      rcases hway with h | ⟨h, h', h''⟩
      · have hd : decide ((k : Int) < (len : Int)) = false := by simp; omega
        go_wp2
        go_ret
        exact ⟨rfl, (Below.refl _ _).alloc (Nat.le_refl _) _, hend.out⟩
      · have hI : (k : Int) < (len : Int) := by omega
        go_wp2
        go_ret
        exact ⟨rfl, (Below.refl _ _).alloc (Nat.le_refl _) _, hend.out⟩
end Go.Proofs.YtefhpjipcdmbaabGreatDoor
