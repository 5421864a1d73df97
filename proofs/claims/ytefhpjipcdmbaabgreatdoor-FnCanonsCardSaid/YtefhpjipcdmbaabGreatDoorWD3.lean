/-
  The walks over the drawing functions: l1bend.
-/
import Derived.Test.YtefhpjipcdmbaabGreatDoorWD2
import Derived.Test.YtefhpjipcdmbaabGreatDoorM1
namespace Go.Proofs.YtefhpjipcdmbaabGreatDoor
set_option linter.unusedVariables false
set_option linter.unusedSimpArgs false
open Go.RowKit

theorem conv1 {P : Program} (src e dst : TypeId) (hs : P.underlying src = some (.slice e)) (he : P.underlying e = some (.int .u8)) (hd : P.underlying dst = some .string) (w : World) (b cap : Nat) (x : Int) (hc : w.cell? ⟨b, 0, none⟩ = some (.int .u8 x)) :
    (convert src dst (.slice (some ⟨b, 0, none⟩) 1 cap)).run P w = .ok (.string ⟨#[UInt8.ofNat x.toNat]⟩) w :=
  run_convert_bytes_arg (P := P) w src e hs he b 0 1 cap [x] rfl (fun i hi => by obtain rfl : i = 0 := by omega
                                                                                 exact hc) dst hd
theorem Kp.cell {p : Nat} {w w' : World} (h : Kp p w w') {a : Addr} {v : Value} (hc : w.cell? a = some v) (hne : a.block ≠ p) : w'.cell? a = some v :=
  World.grownBy.cell h hc (fun e => hne (by injection e))
theorem Kp.of_drew {p : Nat} {w w' : World} (h : Kp p w.drew w') : Kp p w w' := (Kp.refl p w).drew.trans h
theorem bend_size (s : ByteArray) (a : Nat) (x : UInt8) (ha : a ≤ s.size) : (s.extract 0 a ++ ⟨#[x]⟩ ++ s.extract a s.size).size ≤ s.size + 1 := by
  have e : (ByteArray.mk #[x]).size = 1 := rfl
  rw [ByteArray.size_append, ByteArray.size_append, ByteArray.size_extract, ByteArray.size_extract, e]
  omega
theorem Kp.setNew {p : Nat} {a w : World} (h : Kp p a w) {g : Nat} (hg : a.heap.size ≤ g) (off : Nat) (u : Value) : Kp p a (w.setCell ⟨g, off, none⟩ u) :=
  ⟨h.os, h.tape, h.output, by have := h.size; simpa [World.setCell] using this, fun k hk hne => (Below.heap_setCell _ _ _ _ (by simp; omega)).trans (h.block k hk hne)⟩
theorem Drw.setNew {w : World} {p : Nat} (h : Drw w p) {g : Nat} (hg : p < g) (off : Nat) (u : Value) : Drw (w.setCell ⟨g, off, none⟩ u) p := by
  obtain ⟨a, len, cap, i, hh, h1, h2, h3⟩ := h
  exact ⟨a, len, cap, i, hh, (Below.heap_setCell _ _ _ _ (by simp; omega)).trans h1, h2.kept (fun k hk => Below.heap_setCell _ _ _ _ (by simp; omega)), h3⟩
theorem Row8.kp {p : Nat} {w w' : World} {b : Nat} {xs : List Int} (h : Row8 w b xs) (hk : Kp p w w') (hne : b ≠ p) : Row8 w' b xs :=
  ⟨fun j hj => hk.cell (h.cell j hj) hne, fun j hj => (World.frozen?_of_block (w := w) (hk.block b h.lt (fun e => hne (by injection e)))).trans (h.free j hj), Nat.lt_of_lt_of_le h.lt hk.size⟩

set_option maxHeartbeats 2000000 in
theorem l1bend_any (p : Nat) (s : ByteArray) (w : World) (hd : Drw w p) (hs : s.size ≤ 1048576) :
    Calls Tryz.prog 43 #[.pointer (some ⟨p, 0, none⟩), .string s] w fun e w' => (∃ t : ByteArray, t.size ≤ s.size + 1 ∧ e = .returned (.string t)) ∧ Kp p w w' ∧ Drw w' p := by
  have kb := fun (w : World) (b cap : Nat) (x : Int) => conv1 (P := Tryz.prog) 28 5 9 Tryz.underlying28 Tryz.underlying5 Tryz.underlying9 w b cap x
  go_enter Tryz.func43, Tryz.ntmps43
  go_wp2_with fail
  refine (l1Below_any p ((s.size : Int) + 1) _ hd (by omega)).mono ?_
  rintro e w1 ⟨⟨at', hat, _, _, rfl⟩, hk1, hd1⟩
  have hat1 : at' ≤ s.size := by have := hat (by omega); omega
  clear hat hd
  go_wp2_with fail
  refine (l1Below_any p 4 _ hd1 (by omega)).mono ?_
  rintro e w2 ⟨⟨m, hm, _, _, rfl⟩, hk2, hd2⟩
  have hm4 : m < 4 := by have := hm (by omega); omega
  have hk := hk1.trans hk2
  clear hm hd1 hk1 hk2
  by_cases h0 : m = 0
  · subst h0
    go_wp2_with fail
    go_region_with (go_at_call 74; refine (l1Byte_any p _ hd2.drew).mono ?_; rintro e w3 ⟨⟨z, hz, rfl⟩, hk3, hd3⟩)
    all_goals
      go_wp2
      go_ret
      refine ⟨⟨_, ?_, rfl⟩, ?_, ?_⟩
      · exact bend_size s at' _ hat1
      · exact (hk.trans (Kp.of_drew hk3)).alloc _
      · exact hd3.alloc _
  · have g0 : ((m : Int) == 0) = false := by rw [beq_eq_false_iff_ne]; omega
    by_cases h1 : m = 1
    · subst h1
      clear g0
      go_wp2
      go_ret
      refine ⟨⟨_, ?_, rfl⟩, hk, hd2⟩
      simp [ByteArray.size_extract]; omega
    · have g1 : ((m : Int) == 1) = false := by rw [beq_eq_false_iff_ne]; omega
      by_cases h2 : m = 2 ∧ at' < s.size
      · obtain ⟨rfl, hlt⟩ := h2
        clear g0 g1 h0 h1
        have hI : (at' : Int) < (s.size : Int) := by omega
        go_wp2
        go_quiet (fail)
        go_wp2
        go_ret
        refine ⟨⟨_, ?_, rfl⟩, hk.drewN _, hd2.drewN _⟩
        simp [ByteArray.size_append, ByteArray.size_extract]; omega
      · have hway : (m = 2 ∧ ¬ at' < s.size) ∨ (m = 3 ∧ ¬ at' < s.size) ∨ (m = 3 ∧ at' < s.size) := by omega
        clear h2
        rcases hway with ⟨rfl, hlt⟩ | ⟨rfl, hlt⟩ | ⟨rfl, hlt⟩
        · clear g0 g1
          go_wp2
          go_ret
          refine ⟨⟨_, ?_, rfl⟩, hk, hd2⟩
          simp [ByteArray.size_append]; simp [ByteArray.size]
        · clear g0 g1
          go_wp2
          go_ret
          refine ⟨⟨_, ?_, rfl⟩, hk, hd2⟩
          simp [ByteArray.size_append]; simp [ByteArray.size]
        · clear g0 g1 h0 h1 kb
          have hI : (at' : Int) < (s.size : Int) := by omega
          have kc := fun w => Lib.run_convert_string_bytes (P := Tryz.prog) w 9 28 5 s Tryz.underlying9 Tryz.underlying28 Tryz.underlying5
          have R0 := row8_bytes w2 5 s
          have B0 := below_bytes w2 5 s
          have hd4 := hd2.kept B0
          have hk4 : Kp p w (Lib.bytesWorld w2 5 s) := hk.trans (Kp.of_below B0)
          have hpw : p < w2.heap.size := hd2.lt
          have hwg : w.heap.size ≤ w2.heap.size := hk.size
          go_wp2
          generalize Lib.bytesWorld w2 5 s = X at *
          generalize w2.heap.size = g at *
          clear kc B0 hk
          have hne : g ≠ p := by omega
          have hc0 := R0.cell at' (by rw [nums_length]; exact hlt)
          have hf0 := R0.free at' (by rw [nums_length]; exact hlt)
          go_region_with (go_at_call 42; refine (l1Below_any p 8 _ hd4.drew (by omega)).mono ?_; rintro e w3 ⟨⟨m3, hm3, _, hm4, rfl⟩, hk3, hd3⟩; have hX3 := Kp.of_drew hk3; have hc3 := hX3.cell hc0 hne; have hf3 := (R0.kp hX3 hne).free at' (by rw [nums_length]; exact hlt); have hm8 := hm3 (by omega))
          all_goals
            have kt := fun (V : Int) => ((R0.kp hX3 hne).set at' V (by rw [nums_length]; exact hlt)).text (P := Tryz.prog) 28 5 9 s.size (grownCap w2 s.size 0 5) (by rw [List.length_set, nums_length]) Tryz.underlying28 Tryz.underlying5 Tryz.underlying9
            go_wp2
            go_ret
            refine ⟨⟨_, ?_, rfl⟩, (hk4.trans hX3).setNew hwg _ _, hd3.setNew (by omega) _ _⟩
            rw [strOfNums_size, List.length_set, nums_length]
            omega
end Go.Proofs.YtefhpjipcdmbaabGreatDoor
