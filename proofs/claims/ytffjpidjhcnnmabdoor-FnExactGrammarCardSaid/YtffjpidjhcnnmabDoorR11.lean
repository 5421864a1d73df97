/-
  Chapter 8: how many records there are; the program's side.
-/
import Derived.Test.YtffjpidjhcnnmabDoorR10
namespace Go.Proofs.YtffjpidjhcnnmabDoor
set_option linter.unusedVariables false
set_option linter.unusedSimpArgs false
open Go.RowKit
def ptrB : Value → Nat
  | .pointer (some a) => a.block
  | _ => 0
def gramG (n : Nat) : Option Nat → Int
  | some r => ((n + r : Nat) : Int)
  | none => -1
theorem gramV_eq {s : ByteArray} (h : s.size ≤ 60000) : gramV s = gramG 0 (grmF s 0) := by
  unfold gramV
  rw [if_pos h]
  cases grmF s 0 with
  | none => rfl
  | some r => show (r : Int) = ((0 + r : Nat) : Int); rw [Nat.zero_add]
theorem gramV_big {s : ByteArray} (h : ¬ s.size ≤ 60000) : gramV s = -1 := by unfold gramV; rw [if_neg h]
theorem gramG_end {s : ByteArray} {n k : Nat} (h : s.size ≤ k) : gramG n (grmF s k) = (n : Int) := by rw [grmF_end h]; rfl
theorem gramG_none {s : ByteArray} {n k : Nat} (h : k < s.size) (h2 : grF s k = none) : gramG n (grmF s k) = -1 := by rw [grmF_step h, h2]; rfl
theorem gramG_some {s : ByteArray} {n k k' : Nat} {l : List Fd} {b : ByteArray} (h : k < s.size) (h2 : grF s k = some (l, b, k')) : gramG n (grmF s k) = gramG (n + 1) (grmF s k') := by
  rw [grmF_step h, h2]
  show gramG n ((grmF s k').map (· + 1)) = _
  cases grmF s k' with
  | none => rfl
  | some r => show ((n + (r + 1) : Nat) : Int) = ((n + 1 + r : Nat) : Int); congr 1; omega
set_option maxRecDepth 100000 in
set_option maxHeartbeats 8000000 in
theorem Grammar_any (s : ByteArray) (w : World) (hs : s.size ≤ 1048576) (hM : MonTab w) :
    Calls Tryd.prog 5 #[.string s] w fun e w' => e = .returned (.int .i64 (gramV s)) ∧ Below w.heap.size w w' := by
  by_cases hbig : s.size ≤ 60000
  · have hsm : s.size ≤ maxLen := by unfold maxLen; omega
    have hg0 := gramV_eq hbig
    generalize hG : gramV s = G at *
    clear hG
    have HG0 := hideB2 hg0
    have HMT := hideB2 hM
    have HS := hideB2 hs
    have HSM := hideB2 hsm
    have hbig' : ¬ (60000 : Int) < (s.size : Int) := by omega
    have HB0 := hideB2 (below_a1 w (.cells #[.string s, .int .i64 0] 25))
    have A0 := hideB2 (Blk.new w #[.string s, .int .i64 0] 25)
    have HBG := hideB2 hbig
    clear hM hs hg0 hsm hbig
    go_enter Tryd.func5, Tryd.ntmps5
    go_wp2
    generalize hW : w.alloc (.cells #[.string s, .int .i64 0] 25) = W1 at *
    clear hW
    go_loopw [3, 4] (fun ct p wr => ∃ (k n g : Nat), k ≤ s.size ∧ p = .pointer (some ⟨g, 0, none⟩) ∧ ct = .int .i64 (n : Int) ∧ n ≤ k ∧ Blk wr g #[.string s, .int .i64 (k : Int)] 25 ∧ w.heap.size ≤ g ∧ Below w.heap.size w wr ∧ Hid (G = gramG n (grmF s k))) (fun _ p wr => s.size - curAt wr (ptrB p))
    case atStart => exact ⟨0, 0, w.heap.size, Nat.zero_le _, rfl, rfl, Nat.zero_le _, A0.out, Nat.le_refl _, HB0.out, HG0⟩
    case round =>
      obtain ⟨k, n, g, hk, rfl, rfl, hnk, hA, hg, hbw, hx⟩ := hrel
      clear A0 HB0 HG0
      have HA := hideB2 hA
      have HBW := hideB2 hbw
      have HNK := hideB2 hnk
      have hm := hideB2 (curAt_blk hA)
      have hlt := hA.lt
      obtain ⟨p0, p1⟩ := hA.c2
      clear hA hbw hnk
      have HLF := hideB2 (fun W => left_any s k W HSM.out hk)
      by_cases hend : k = s.size
      · subst hend
        have hF := hideB2 (show G = (n : Int) from hx.out.trans (gramG_end (Nat.le_refl _)))
        obtain rfl := hF.out
        clear hx hF
        go_wp2_with (go_at_call 7; refine (HLF.out _).mono ?_; rintro e w2 ⟨rfl, rfl⟩)
        go_ret
        exact ⟨rfl, HBW.out.alloc HBW.out.size _⟩
      · have hlt' : k < s.size := by omega
        have hpos : ¬ (s.size : Int) - (k : Int) ≤ 0 := by omega
        have hpos' : (0 : Int) < (s.size : Int) - (k : Int) := by omega
        have HTL := hideB2 (fun W (h : MonTab W) => takeLoose_any s k W HS.out hk h)
        have hG1 := hideB2 (fun h => hx.out.trans (gramG_none (n := n) hlt' h))
        have hG2 := hideB2 (fun l b k' h => hx.out.trans (gramG_some (n := n) (k' := k') (l := l) (b := b) hlt' h))
        have hLE := hideB2 (fun l b k' h => grF_le (s := s) (k := k) (l := l) (b := b) (n := k') hk h)
        clear hx
        generalize hX : grF s k = X at *
        clear hX
        have hbA := hideB2 (below_a1 wr (.cells #[.string s, .int .i64 (k : Int)] 25))
        have A1 := hideB2 (HA.out.alloc (.cells #[.string s, .int .i64 (k : Int)] 25))
        have HB1 := hideB2 (below_then HBW.out hbA.out)
        clear hbA
        go_wp2_with (first | (go_at_call 7; refine (HLF.out _).mono ?_; rintro e w2 ⟨rfl, rfl⟩; obtain ⟨q0, q1⟩ := A1.out.c2) | fail)
        clear q0 q1 p0 p1
        refine (HTL.out _ (HMT.out.below HB1.out)).mono ?_
        rintro e w3 ⟨hres, hb3⟩
        have A3 := hideB2 (A1.out.later hb3)
        have HB3 := hideB2 (below_then HB1.out hb3)
        have hl3 := A3.out.lt
        clear hb3
        rcases hres with ⟨rfl, rfl⟩ | ⟨l, b, k', v, rfl, rfl, hsl, _⟩
        · have hF := hideB2 (hG1.out rfl)
          obtain rfl := hF.out
          have HB4 := hideB2 (below_then HB3.out (below_a2 w3 (.cells #[.slice none 0 0, .string ⟨#[]⟩] 31) (.cells #[.string ⟨#[]⟩, .int .i64 0] 25)))
          clear hG1 hG2 hLE hF
          go_wp2
          go_ret
          exact ⟨rfl, HB4.out⟩
        · have hF := hideB2 (hG2.out l b k' rfl)
          obtain ⟨hle1, hle2⟩ := hLE.out l b k' rfl
          clear hG1 hG2 hLE
          obtain ⟨va, vc, hvf⟩ := hsl.form
          clear hsl
          generalize l.length = m at hvf
          subst hvf
          have hb5 := hideB2 (below_a2 w3 (.cells #[.slice va m vc, .string b] 31) (.cells #[.string s, .int .i64 ((k' : Nat) : Int)] 25))
          have A5 := hideB2 (A3.out.later hb5.out)
          have N5 := hideB2 (Blk.new (w3.alloc (.cells #[.slice va m vc, .string b] 31)) #[.string s, .int .i64 ((k' : Nat) : Int)] 25)
          have HB5 := hideB2 (below_then HB3.out hb5.out)
          have hz1 : (w3.alloc (.cells #[.slice va m vc, .string b] 31)).heap.size = w3.heap.size + 1 := by simp
          rw [hz1] at N5
          clear hb5
          obtain ⟨n0, n1⟩ := N5.out.c2
          have f0 := A5.out.free 0
          have f1 := A5.out.free 1
          obtain ⟨p0, p1⟩ := A5.out.c2
          obtain ⟨s0, s1⟩ := A3.out.c2
          have t0 := A3.out.free 0
          have t1 := A3.out.free 1
          have d3 : g ≠ w3.heap.size := by omega
          have d4 : w3.heap.size ≠ g := by omega
          have d1 : g ≠ w3.heap.size + 1 := by omega
          have d2 : w3.heap.size + 1 ≠ g := by omega
          have hsb := HS.out
          have e1 : IntKind.i64.wrap ((n : Int) + 1) = (n : Int) + 1 := by have := HNK.out; rw [IntKind.wrap_i64]; omega
          have HB6 := hideB2 ((HB5.out.setCell (p := ⟨g, 0, none⟩) hg (.string s)).setCell (p := ⟨g, 1, none⟩) hg (.int .i64 ((k' : Nat) : Int)))
          go_wp2
          have HBs := hideB2 ((HB3.out.setCell (p := ⟨g, 0, none⟩) hg (.string s)).setCell (p := ⟨g, 1, none⟩) hg (.int .i64 ((k' : Nat) : Int)))
          have HBz := hideB2 (below_then HBs.out (below_a3 ((w3.setCell ⟨g, 0, none⟩ (.string s)).setCell ⟨g, 1, none⟩ (.int .i64 ((k' : Nat) : Int))) (.cells #[.slice va m vc, .string b] 31) (.cells #[.string s, .int .i64 ((k' : Nat) : Int)] 25) (.cells #[.string s, .int .i64 ((k' : Nat) : Int)] 25)))
          have hzz : ((((w3.setCell ⟨g, 0, none⟩ (.string s)).setCell ⟨g, 1, none⟩ (.int .i64 ((k' : Nat) : Int))).alloc (.cells #[.slice va m vc, .string b] 31)).alloc (.cells #[.string s, .int .i64 ((k' : Nat) : Int)] 25)).heap.size = w3.heap.size + 1 + 1 := by simp [World.setCell]
          have NZ := Blk.new ((((w3.setCell ⟨g, 0, none⟩ (.string s)).setCell ⟨g, 1, none⟩ (.int .i64 ((k' : Nat) : Int))).alloc (.cells #[.slice va m vc, .string b] 31)).alloc (.cells #[.string s, .int .i64 ((k' : Nat) : Int)] 25)) #[.string s, .int .i64 ((k' : Nat) : Int)] 25
          rw [hzz] at NZ
          have hw3 := HB3.out.size
          refine ⟨⟨k', n + 1, w3.heap.size + 1 + 1, hle2, rfl, by go_num, by have := HNK.out; omega, NZ, by omega, HBz.out, hF⟩, ?_⟩
          show s.size - curAt _ (w3.heap.size + 1 + 1) < s.size - curAt wr g
          rw [curAt_blk NZ, hm.out]
          omega
  · have hbig' : (60000 : Int) < (s.size : Int) := by omega
    have hF := hideB2 (gramV_big hbig)
    clear hbig
    go_enter Tryd.func5, Tryd.ntmps5
    go_wp2
    go_ret
    exact ⟨by rw [hF.out]; rfl, Below.refl _ _⟩
end Go.Proofs.YtffjpidjhcnnmabDoor
