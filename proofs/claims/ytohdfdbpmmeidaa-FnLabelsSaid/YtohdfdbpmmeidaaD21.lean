/-
  laws.more at 1: a code with the bytes 1, 7 ahead of another.
-/
import Derived.Test.YtohdfdbpmmeidaaWD4
import Derived.Test.YtohdfdbpmmeidaaD1
import Derived.Test.YtohdfdbpmmeidaaOpenC
namespace Go.Proofs.Ytohdfdbpmmeidaa
set_option linter.unusedVariables false
set_option linter.unusedSimpArgs false
open Go.ChangeShapes Go.WideShapes Go.ChangeAt Go.RowKit
theorem two1_own (w : World) : (w.alloc (.cells #[.int .u8 1, .int .u8 7] 5)).ownsRow w.heap.size 5 1 (.slice (some ⟨w.heap.size, 0, none⟩) 2 2) 2 [.int .u8 1, .int .u8 7] :=
  ⟨by simp, .inr ⟨w.heap.size, 2, #[.int .u8 1, .int .u8 7], rfl, Nat.le_refl _, heap_alloc_new w _, Nat.le_refl _, by decide, by simp, by simp⟩⟩
/-- A row of bytes of the call's own is a code. -/
theorem code1_own {w : World} {base n : Nat} {v : Value} {xs : List Value} (h : w.ownsRow base 5 1 v n xs) (hb : ∀ u ∈ xs, ∃ z : Nat, z ≤ 255 ∧ u = .int .u8 (z : Int)) (hn : 0 < n) (hx : xs.length = n) (hm : n ≤ maxLen) :
    ∃ a cap, v = .slice a n cap ∧ Code w a n := by
  rcases h.2 with ⟨h1, h2⟩ | ⟨g, cap, cur, h1, _⟩
  · omega
  · subst h1
    refine ⟨_, cap, rfl, ⟨.inr ⟨g, 0, rfl, (h.lt g rfl).2, fun i hi => ?_⟩, hm⟩⟩
    have hi' : i < xs.length := by omega
    obtain ⟨z, hz, e⟩ := hb (xs[i]) (List.getElem_mem hi')
    have := h.cells (g := g) rfl i (.int .u8 (z : Int)) (by rw [List.getElem?_eq_getElem hi', e])
    rw [Addr.add_lit] at this
    exact ⟨z, hz, this⟩
set_option maxHeartbeats 1000000 in
theorem more1_nil (w : World) :
    Calls Try.prog 23 #[.slice none 0 0, .int .i64 1] w fun e w' => (∃ a len cap, e = .returned (.slice a len cap) ∧ Code w' a len) ∧ Below w.heap.size w w' := by
  go_enter Try.func23, Try.ntmps23
  go_wp2
  go_ret
  refine ⟨⟨_, _, _, rfl, ?_⟩, below_a1 _ _⟩
  obtain ⟨a, cap, e, hc⟩ := code1_own (two1_own w) (fun u hu => by simp at hu; rcases hu with rfl | rfl; exact ⟨1, by decide, rfl⟩; exact ⟨7, by decide, rfl⟩) (by decide) rfl (by unfold maxLen; decide)
  injection e with e1 e2 e3
  subst e1 e3
  exact hc
set_option maxHeartbeats 1000000 in
theorem more1_some (x : Addr) (len cap : Nat) (zs : List Int) (w : World) (hl : len ≤ cap) (hcap : cap ≤ 140737488351232) (hz : zs.length = cap) (hc : ∀ i, i < zs.length → w.cell? (x.add i) = some (.int .u8 (zs.getD i 0))) (hw : ∀ n ∈ zs, (Lit.int .u8 n).wf = true) :
    Calls Try.prog 23 #[.slice (some x) len cap, .int .i64 1] w fun e w' => (∃ a len cap, e = .returned (.slice a len cap) ∧ Code w' a len) ∧ Below w.heap.size w w' := by
  obtain ⟨i0, hi, hz0, hz1, hz2⟩ := info_parts Try.infoU8
  have HC : Hid (∀ i, i < zs.length → w.cell? (x.add i) = some (.int .u8 (zs.getD i 0))) := hc
  have HW : Hid (∀ n ∈ zs, (Lit.int .u8 n).wf = true) := hw
  clear hc hw
  go_enter Try.func23, Try.ntmps23
  go_wp2_with (refine wpList_append_own _ rfl _ _ 22 rfl w.heap.size 5 i0 (.int .u8 0) 1 1 Try.underlying22 hi hz0 hz1 hz2 rfl (by decide) _ 2 [.int .u8 1, .int .u8 7] rfl (two1_own w) x len cap ((zs.take len).map fun n => .int .u8 n) rfl ?c0 ?c1 ?c2 ?c3 ?c4 ?c5 ?_)
  case c0 => simp; omega
  case c1 =>
    intro j u hu
    have hj : j < len ∧ j < zs.length := by
      have h1 := (List.getElem?_eq_some_iff.1 hu).1
      simp at h1
      omega
    have hcj := HC.out j hj.2
    rw [(below_a1 w _).cell (p := x.add j) (World.block_lt_of_cell? _ _ hcj), hcj]
    simp [List.getD, hj.1, hj.2] at hu ⊢
    exact hu
  case c2 => intro u hu; obtain ⟨n, _, rfl⟩ := List.mem_map.1 hu; rfl
  case c3 => unfold maxLen; omega
  case c4 => omega
  case c5 => simp
  intro v' w' hown hgrow _
  have hbel : Below w.heap.size w w' := (below_a1 w _).grown hgrow (by simp) (fun k hk => by
    have e : (Value.slice (some ⟨w.heap.size, 0, none⟩) 2 2).ownBlock = some w.heap.size := rfl
    rw [e] at hk
    cases hk
    exact Nat.le_refl _)
  obtain ⟨a, cap', rfl, hcode⟩ := code1_own hown (fun u hu => by
    rcases List.mem_cons.1 hu with rfl | hu
    · exact ⟨1, by decide, rfl⟩
    · rcases List.mem_cons.1 hu with rfl | hu
      · exact ⟨7, by decide, rfl⟩
      · obtain ⟨n, hn, rfl⟩ := List.mem_map.1 (List.mem_of_mem_take hu)
        have hb := bounds_u8 (HW.out n hn)
        exact ⟨n.toNat, by omega, by congr 1; omega⟩) (by omega) (by simp; omega) (by unfold maxLen; omega)
  clear hown hgrow HC HW
  go_wp2
  go_ret
  exact ⟨⟨_, _, _, rfl, hcode⟩, hbel⟩
/-- Both, for what came in. -/
theorem more1_any (a : Option Addr) (len cap : Nat) (zs : List Int) (w w' : World) (h : IsRow .u8 w a len cap zs) (hb : Below w.heap.size w w') (hcap : cap ≤ 140737488351232) :
    Calls Try.prog 23 #[.slice a len cap, .int .i64 1] w' fun e w2 => (∃ a len cap, e = .returned (.slice a len cap) ∧ Code w2 a len) ∧ Below w'.heap.size w' w2 := by
  rcases h with ⟨rfl, rfl, rfl, rfl⟩ | ⟨x, rfl, hl, hm, hz, hcell, hwf⟩
  · exact more1_nil w'
  · refine more1_some x len cap zs w' hl hcap hz (fun i hi => ?_) hwf
    have hci := hcell i hi
    rw [hb.cell (p := x.add i) (World.block_lt_of_cell? _ _ hci)]
    exact hci
end Go.Proofs.Ytohdfdbpmmeidaa
