/-
  The drawing functions of chapter 3: bytes, texts to be digested, a word and a turn.
-/
import Derived.Test.YtknpolmenfdheaaWD4
import Derived.Test.YtknpolmenfdheaaD1
namespace Go.Proofs.Ytknpolmenfdheaa
set_option linter.unusedVariables false
set_option linter.unusedSimpArgs false
open Go.RowKit
theorem cell_newP (w : World) (c : Array Value) (t : TypeId) (Q : Int → Prop) (j : Nat) (z : Int) (h : c[j]? = some (.int .i64 z)) (hq : Q z) : ∃ z : Int, Q z ∧ (w.alloc (.cells c t)).cell? ⟨w.heap.size, j, none⟩ = some (.int .i64 z) :=
  ⟨z, hq, by simp only [World.cell?, heap_alloc_new]; exact h⟩
set_option maxHeartbeats 1000000 in
theorem l1PickInt_of (Q : Int → Prop) (p b n cap : Nat) (w : World) (hd : Drw w p) (hne : b ≠ p) (hc : ∀ j, j < n → ∃ z : Int, Q z ∧ w.cell? ⟨b, j, none⟩ = some (.int .i64 z)) (h0 : 0 < n) (h1 : n ≤ 1000) :
    Calls Try.prog 21 #[.pointer (some ⟨p, 0, none⟩), .slice (some ⟨b, 0, none⟩) n cap] w fun e w' => (∃ z : Int, Q z ∧ e = .returned (.int .i64 z)) ∧ Kp p w w' ∧ Drw w' p := by
  go_enter Try.func21, Try.ntmps21
  go_wp2_with fail
  refine (l1Below_any p (n : Int) _ hd (by omega)).mono ?_
  rintro e w1 ⟨⟨m, hm, _, _, rfl⟩, hk1, hd1⟩
  have hmn : (m : Int) < (n : Int) := hm (by omega)
  obtain ⟨z, hz1, hcz⟩ := hc m (by omega)
  have hcz1 := hk1.cell hcz hne
  have HZ := hideB2 hz1
  clear hc hcz hm hz1
  go_wp2
  go_ret
  exact ⟨⟨z, HZ.out, rfl⟩, hk1, hd1⟩
set_option maxHeartbeats 1000000 in
theorem l1Size_200 (a : Option Addr) (len cap : Nat) (w : World) (hl : len ≤ maxLen) :
    Calls Try.prog 23 #[.slice a len cap, .int .i64 200] w fun e w' => (∃ n : Nat, 0 < n ∧ n ≤ 200 ∧ e = .returned (.int .i64 (n : Int))) ∧ w' = w := by
  unfold maxLen at hl
  obtain ⟨q, hq, hq2⟩ : ∃ q : Nat, (len : Int) / 20 = (q : Int) ∧ q ≤ len := ⟨len / 20, by omega, by omega⟩
  by_cases h : (200 : Int) < 2 + (q : Int)
  · go_enter Try.func23, Try.ntmps23
    go_wp2
    go_ret
    exact ⟨⟨200, by omega, by omega, rfl⟩, rfl⟩
  · go_enter Try.func23, Try.ntmps23
    go_wp2
    go_ret
    exact ⟨⟨2 + q, by omega, by omega, ret_int (by omega)⟩, rfl⟩
set_option maxHeartbeats 1000000 in
theorem l3bytes_any (p : Nat) (n : Int) (m : Nat) (w : World) (hd : Drw w p) (hnm : n = (m : Int)) (hm : m ≤ 300) :
    Calls Try.prog 20 #[.pointer (some ⟨p, 0, none⟩), .int .i64 n] w fun e w' => (∃ s : ByteArray, s.size = m ∧ e = .returned (.string s)) ∧ Kp p w w' ∧ Drw w' p := by
  subst hnm
  go_enter Try.func20, Try.ntmps20
  go_wp2
  go_loopw [5, 6] (fun v i wr => ∃ l : List UInt8, l.length ≤ m ∧ i = .int .i64 ((l.length : Nat) : Int) ∧ DBuf p w wr v l) (fun _ i _ => m - (intOf i).toNat)
  case atStart => exact ⟨[], Nat.zero_le _, rfl, DBuf.start hd⟩
  case round =>
    obtain ⟨l, hl, rfl, hbuf⟩ := hrel
    clear hd
    generalize hk : l.length = k at *
    have HK := hideB2 hk
    clear hk
    by_cases hlt : k < m
    · go_wp2_with fail
      refine (l1Byte_any _ _ hbuf.st).mono ?_
      rintro e w4 ⟨⟨z, hz, rfl⟩, hk4, hd4⟩
      have hb1 := hbuf.draw hk4 hd4
      have HZ : Hid ((z : Int) = ((UInt8.ofNat z).toNat : Int)) := by
        show _ = _
        rw [UInt8.toNat_ofNat']; omega
      clear hbuf hk4 hd4
      go_wp2_with (at_builtin; refine wp_dapp rfl (.tmp 12) (.tmp 16) rfl _ _ rfl hb1 _ (UInt8.ofNat z) HZ.out rfl (by rw [HK.out]; omega) ?_; intro v2 W2 hbuf2)
      refine ⟨⟨l ++ [UInt8.ofNat z], ?_, ?_, hbuf2⟩, by simp [intOf]; omega⟩
      · rw [List.length_append, HK.out]; exact hlt
      · rw [List.length_append, HK.out]; rfl
    · have kb := hbuf.text
      go_wp2
      go_ret
      refine ⟨⟨_, ?_, rfl⟩, hbuf.kp, hbuf.st⟩
      show l.toArray.size = m
      rw [List.size_toArray, HK.out]
      omega
set_option maxHeartbeats 2000000 in
theorem DrawSha1_any (a : Option Addr) (len cap : Nat) (w : World) (hc : Code w a len) :
    Calls Try.prog 5 #[.slice a len cap] w fun e w' => (∃ s : ByteArray, s.size ≤ 200 ∧ e = .returned (.string s)) ∧ Below w.heap.size w w' := by
  go_enter Try.func5, Try.ntmps5
  go_wp2_with fail
  refine (l1New_any a len cap _ hc.row hc.max).mono ?_
  rintro e w1 ⟨rfl, hb1, hd1⟩
  have hmax := hc.max
  clear hc
  go_wp2_with fail
  refine (l1Once_any _ 3 _ hd1 (by omega)).mono ?_
  rintro e w2 ⟨⟨b, rfl⟩, hk2, hd2⟩
  have hB2 := hb1.trans (hk2.below (Nat.le_refl _) hb1.size)
  have hpl := hd2.lt
  cases b with
  | true =>
    have hnew := fun j (hj : j < 10) => cell_newP w2 #[.int .i64 0, .int .i64 54, .int .i64 55, .int .i64 56, .int .i64 57, .int .i64 63, .int .i64 64, .int .i64 65, .int .i64 119, .int .i64 120] 3 (fun z => 0 ≤ z ∧ z ≤ 120) j
    go_wp2_with fail
    refine (l1PickInt_of (fun z => 0 ≤ z ∧ z ≤ 120) _ _ 10 10 _ (hd2.alloc _) (by omega) ?_ (by omega) (by omega)).mono ?_
    · intro j hj
      have hj10 : j = 0 ∨ j = 1 ∨ j = 2 ∨ j = 3 ∨ j = 4 ∨ j = 5 ∨ j = 6 ∨ j = 7 ∨ j = 8 ∨ j = 9 := by omega
      rcases hj10 with rfl | rfl | rfl | rfl | rfl | rfl | rfl | rfl | rfl | rfl <;> exact hnew _ (by omega) _ rfl (by omega)
    rintro e w3 ⟨⟨z, ⟨hz0, hz1⟩, rfl⟩, hk3, hd3⟩
    have hB3 := (hB2.alloc hB2.size _).trans (hk3.below (Nat.le_refl _) (by simp; omega))
    clear hnew
    obtain ⟨m, rfl⟩ := Int.eq_ofNat_of_zero_le hz0
    go_wp2_with fail
    refine (l3bytes_any _ _ m _ hd3 rfl (by omega)).mono ?_
    rintro e w4 ⟨⟨s, hs, rfl⟩, hk4, hd4⟩
    have hs2 : s.size ≤ 200 := by omega
    clear hs
    go_wp2
    go_ret
    exact ⟨⟨s, hs2, rfl⟩, hB3.trans (hk4.below (Nat.le_refl _) hB3.size)⟩
  | false =>
    go_wp2_with fail
    refine (l1Size_200 a len cap _ hmax).mono ?_
    rintro e w3 ⟨⟨n, hn0, hn1, rfl⟩, rfl⟩
    go_wp2_with fail
    refine (l1Below_any _ (n : Int) _ hd2 (by omega)).mono ?_
    rintro e w4 ⟨⟨m, hm, _, _, rfl⟩, hk4, hd4⟩
    have hm2 : m < 200 := by have := hm (by omega); omega
    have hB4 := hB2.trans (hk4.below (Nat.le_refl _) hB2.size)
    clear hm
    go_wp2_with fail
    refine (l3bytes_any _ _ m _ hd4 rfl (by omega)).mono ?_
    rintro e w5 ⟨⟨s, hs, rfl⟩, hk5, hd5⟩
    have hs2 : s.size ≤ 200 := by omega
    clear hs
    go_wp2
    go_ret
    exact ⟨⟨s, hs2, rfl⟩, hB4.trans (hk5.below (Nat.le_refl _) hB4.size)⟩
set_option maxHeartbeats 1000000 in
theorem at_any (a : Option Addr) (len cap : Nat) (i : Nat) (w : World) (hc : Code w a len) (hi : i ≤ 1000) :
    Calls Try.prog 6 #[.slice a len cap, .int .i64 (i : Int)] w fun e w' => (∃ n : Nat, n ≤ 255 ∧ e = .returned (.int .i64 (n : Int))) ∧ ∃ m, w' = w.drewN m := by
  have hmax := hc.max
  unfold maxLen at hmax
  by_cases h0 : len = 0
  · subst h0
    go_enter Try.func6, Try.ntmps6
    go_wp2
    go_ret
    exact ⟨⟨0, by omega, rfl⟩, 0, rfl⟩
  · have hne : ((len : Int) == 0) = false := by rw [beq_eq_false_iff_ne]; omega
    rcases hc.row with h | ⟨b, off, rfl, hb, hcs⟩
    · exact absurd h h0
    · have hml : i % len < len := Nat.mod_lt _ (by omega)
      obtain ⟨z, hz, hcz⟩ := hcs (i % len) hml
      have hm : (i : Int) % (len : Int) = ((i % len : Nat) : Int) := by simp
      have hpos : (0 : Int) < (len : Int) := by omega
      clear hcs
      generalize i % len = q at *
      go_enter Try.func6, Try.ntmps6
      go_wp2
      go_ret
      exact ⟨⟨z, hz, rfl⟩, 0, rfl⟩
end Go.Proofs.Ytknpolmenfdheaa
