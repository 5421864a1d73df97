/-
  Chapter 8: how many records there are; the specification's side.
-/
import Derived.Test.YtffjpidjhcnnmabDoorR12
namespace Go.Proofs.YtffjpidjhcnnmabDoor
set_option linter.unusedVariables false
set_option linter.unusedSimpArgs false
open Go.RowKit
theorem X_none {s : ByteArray} {k : Nat} (h : (grF s k).map (fun p => p.2.2) = none) : grF s k = none := by
  cases hg : grF s k with
  | none => rfl
  | some p => rw [hg] at h; cases h
theorem X_some {s : ByteArray} {k k' : Nat} (h : (grF s k).map (fun p => p.2.2) = some k') : ∃ l b, grF s k = some (l, b, k') := by
  cases hg : grF s k with
  | none => rw [hg] at h; cases h
  | some p =>
    rw [hg] at h
    obtain ⟨l, b, q⟩ := p
    obtain rfl : q = k' := Option.some.inj h
    exact ⟨l, b, rfl⟩
set_option maxRecDepth 100000 in
set_option maxHeartbeats 8000000 in
theorem sGrammar_any (s : ByteArray) (w : World) (hs : s.size ≤ 1048576) :
    Calls Tryd.prog 4 #[.string s] w fun e w' => e = .returned (.int .i64 (gramV s)) ∧ Below w.heap.size w w' := by
  by_cases hbig : s.size ≤ 60000
  · have hg0 := gramV_eq hbig
    generalize hG : gramV s = G at *
    clear hG
    have HG0 := hideB2 hg0
    have HS := hideB2 hs
    have hbig' : ¬ (60000 : Int) < (s.size : Int) := by omega
    have HB0 := hideB2 (below_a1 w (.cells #[.string s, .int .i64 0] 25))
    have A0 := hideB2 (Blk.new w #[.string s, .int .i64 0] 25)
    have HBG := hideB2 hbig
    clear hs hg0 hbig
    go_enter Tryd.func4, Tryd.ntmps4
    go_wp2
    generalize hW : w.alloc (.cells #[.string s, .int .i64 0] 25) = W1 at *
    clear hW
    go_loopw [3] (fun ct wr => ∃ (k n : Nat), k ≤ s.size ∧ ct = .int .i64 (n : Int) ∧ n ≤ k ∧ Blk wr w.heap.size #[.string s, .int .i64 (k : Int)] 25 ∧ Below w.heap.size w wr ∧ Hid (G = gramG n (grmF s k))) (fun _ wr => s.size - curAt wr w.heap.size)
    case atStart => exact ⟨0, 0, Nat.zero_le _, rfl, Nat.zero_le _, A0.out, HB0.out, HG0⟩
    case round =>
      obtain ⟨k, n, hk, rfl, hnk, hA, hbw, hx⟩ := hrel
      clear A0 HB0 HG0
      have HA := hideB2 hA
      have HBW := hideB2 hbw
      have HNK := hideB2 hnk
      have hm := hideB2 (curAt_blk hA)
      have hlt := hA.lt
      obtain ⟨p0, p1⟩ := hA.c2
      clear hA hbw hnk
      by_cases hend : k = s.size
      · subst hend
        have hF := hideB2 (show G = (n : Int) from hx.out.trans (gramG_end (Nat.le_refl _)))
        obtain rfl := hF.out
        clear hx hF
        go_wp2
        go_ret
        exact ⟨rfl, HBW.out⟩
      · have hlt' : k < s.size := by omega
        have hpos' : (k : Int) < (s.size : Int) := by omega
        have HTL := hideB2 (fun W => l8loose_any s k W HS.out hk)
        have hG1 := hideB2 (fun h => hx.out.trans (gramG_none (n := n) hlt' h))
        have hG2 := hideB2 (fun l b k' h => hx.out.trans (gramG_some (n := n) (k' := k') (l := l) (b := b) hlt' h))
        have hLE := hideB2 (fun l b k' h => grF_le (s := s) (k := k) (l := l) (b := b) (n := k') hk h)
        clear hx
        go_wp2_with fail
        refine (HTL.out _).mono ?_
        rintro e w3 ⟨hres, hb3⟩
        have A3 := hideB2 (HA.out.later hb3)
        have HB3 := hideB2 (below_then HBW.out hb3)
        have hl3 := A3.out.lt
        clear hb3 p0 p1
        rcases hres with ⟨hn, a, m, rfl⟩ | ⟨k', hn, rfl⟩
        · have hF := hideB2 (hG1.out (X_none hn))
          obtain rfl := hF.out
          have HB4 := hideB2 (below_then HB3.out (below_a1 w3 (.cells #[.string a, .int .i64 m] 25)))
          clear hG1 hG2 hLE hF hn
          go_wp2
          go_ret
          exact ⟨rfl, HB4.out⟩
        · obtain ⟨l, b, hlb⟩ := X_some hn
          have hF := hideB2 (hG2.out l b k' hlb)
          obtain ⟨hle1, hle2⟩ := hLE.out l b k' hlb
          clear hG1 hG2 hLE hn hlb
          obtain ⟨s0, s1⟩ := A3.out.c2
          have t0 := A3.out.free 0
          have t1 := A3.out.free 1
          have d1 : w.heap.size ≠ w3.heap.size := by omega
          have d2 : w3.heap.size ≠ w.heap.size := by omega
          have hsb := HS.out
          have e1 : IntKind.i64.wrap ((n : Int) + 1) = (n : Int) + 1 := by have := HNK.out; rw [IntKind.wrap_i64]; omega
          have AZ := hideB2 ((A3.out.set2 (.string s) (.int .i64 (k' : Int))).alloc (.cells #[.string s, .int .i64 (k' : Int)] 25))
          have HBZ := hideB2 (below_then (below_set2 (g := w.heap.size) HB3.out (Nat.le_refl _) (.string s) (.int .i64 (k' : Int))) (below_a1 ((w3.setCell ⟨w.heap.size, 0, none⟩ (.string s)).setCell ⟨w.heap.size, 1, none⟩ (.int .i64 (k' : Int))) (.cells #[.string s, .int .i64 (k' : Int)] 25)))
          go_wp2
          refine ⟨⟨k', n + 1, hle2, by go_num, by have := HNK.out; omega, AZ.out, HBZ.out, hF⟩, ?_⟩
          rw [curAt_blk AZ.out, hm.out]
          omega
  · have hbig' : (60000 : Int) < (s.size : Int) := by omega
    have hF := hideB2 (gramV_big hbig)
    clear hbig
    go_enter Tryd.func4, Tryd.ntmps4
    go_wp2
    go_ret
    exact ⟨by rw [hF.out]; rfl, Below.refl _ _⟩
end Go.Proofs.YtffjpidjhcnnmabDoor
