/-
  Chapter 8: how many records there are; the specification's side. · What every frame of this seat shares. · What a card of a door seat of chapter 1 needs: the listed tables. · What every frame of a door seat of chapter 2 shares: the listed tables, a day and hour that comes in.
-/
import Derived.Test.YtffjpidjhcnnmabDoorJ6
import Derived.Test.YtffjpidjhcnnmabDoorRows
import Derived.WalkKit
import Derived.ProofKit
import Derived.OpenShut
import Derived.ShutString
import Derived.ChangeOld
import Derived.Below
import Derived.Lib.SmallJoins
import Derived.Lib.LaidTab
import Derived.LaidLaws
import Derived.LaidHandle
import Derived.ChangeVars
import Derived.OpenVars
import Derived.SevenTiedAt
import Derived.Test.YtffjpidjhcnnmabDoorJ3
namespace Go.Proofs.YtffjpidjhcnnmabDoor
set_option linter.unusedVariables false
set_option linter.unusedSimpArgs false
open Go.RowKit
theorem X_none {s : ByteArray} {k : Nat} (h : (grF s k).map (fun p => p.2.2) = none) : grF s k = none := by
  cases hg : grF s k with
  | none => rfl
  | some p => rw [hg] at h; cases h
theorem X_some {s : ByteArray} {k k' : Nat} (h : (grF s k).map (fun p => p.2.2) = some k') : ∃ l b, grF s k = some (l, b, k') := by
  cases hg : grF s k with
  | none => rw [hg] at h; cases h
  | some p =>
    rw [hg] at h
    obtain ⟨l, b, q⟩ := p
    obtain rfl : q = k' := Option.some.inj h
    exact ⟨l, b, rfl⟩
set_option maxRecDepth 100000 in
set_option maxHeartbeats 8000000 in
theorem sGrammar_any (s : ByteArray) (w : World) (hs : s.size ≤ 1048576) :
    Calls Tryd.prog 4 #[.string s] w fun e w' => e = .returned (.int .i64 (gramV s)) ∧ Below w.heap.size w w' := by
  by_cases hbig : s.size ≤ 60000
  · have hg0 := gramV_eq hbig
    generalize hG : gramV s = G at *
    clear hG
    have HG0 := hideB2 hg0
    have HS := hideB2 hs
    have hbig' : ¬ (60000 : Int) < (s.size : Int) := by omega
    have HB0 := hideB2 (below_a1 w (.cells #[.string s, .int .i64 0] 25))
    have A0 := hideB2 (Blk.new w #[.string s, .int .i64 0] 25)
    have HBG := hideB2 hbig
    clear hs hg0 hbig
    go_enter Tryd.func4, Tryd.ntmps4
    go_wp2
    generalize hW : w.alloc (.cells #[.string s, .int .i64 0] 25) = W1 at *
    clear hW
    go_loopw [3] (fun ct wr => ∃ (k n : Nat), k ≤ s.size ∧ ct = .int .i64 (n : Int) ∧ n ≤ k ∧ Blk wr w.heap.size #[.string s, .int .i64 (k : Int)] 25 ∧ Below w.heap.size w wr ∧ Hid (G = gramG n (grmF s k))) (fun _ wr => s.size - curAt wr w.heap.size)
    case atStart => exact ⟨0, 0, Nat.zero_le _, rfl, Nat.zero_le _, A0.out, HB0.out, HG0⟩
    case round =>
      obtain ⟨k, n, hk, rfl, hnk, hA, hbw, hx⟩ := hrel
      clear A0 HB0 HG0
      have HA := hideB2 hA
      have HBW := hideB2 hbw
      have HNK := hideB2 hnk
      have hm := hideB2 (curAt_blk hA)
      have hlt := hA.lt
      obtain ⟨p0, p1⟩ := hA.c2
      clear hA hbw hnk
      by_cases hend : k = s.size
      · subst hend
        have hF := hideB2 (show G = (n : Int) from hx.out.trans (gramG_end (Nat.le_refl _)))
        obtain rfl := hF.out
        clear hx hF
        go_wp2
        go_ret
        exact ⟨rfl, HBW.out⟩
      · have hlt' : k < s.size := by omega
        have hpos' : (k : Int) < (s.size : Int) := by omega
        have HTL := hideB2 (fun W => l8loose_any s k W HS.out hk)
        have hG1 := hideB2 (fun h => hx.out.trans (gramG_none (n := n) hlt' h))
        have hG2 := hideB2 (fun l b k' h => hx.out.trans (gramG_some (n := n) (k' := k') (l := l) (b := b) hlt' h))
        have hLE := hideB2 (fun l b k' h => grF_le (s := s) (k := k) (l := l) (b := b) (n := k') hk h)
        clear hx
        go_wp2_with fail
        refine (HTL.out _).mono ?_
        rintro e w3 ⟨hres, hb3⟩
        have A3 := hideB2 (HA.out.later hb3)
        have HB3 := hideB2 (below_then HBW.out hb3)
        have hl3 := A3.out.lt
        clear hb3 p0 p1
        rcases hres with ⟨hn, a, m, rfl⟩ | ⟨k', hn, rfl⟩
        · have hF := hideB2 (hG1.out (X_none hn))
          obtain rfl := hF.out
          have HB4 := hideB2 (below_then HB3.out (below_a1 w3 (.cells #[.string a, .int .i64 m] 25)))
          clear hG1 hG2 hLE hF hn
          go_wp2
          go_ret
          exact ⟨rfl, HB4.out⟩
        · obtain ⟨l, b, hlb⟩ := X_some hn
          have hF := hideB2 (hG2.out l b k' hlb)
          obtain ⟨hle1, hle2⟩ := hLE.out l b k' hlb
          clear hG1 hG2 hLE hn hlb
          obtain ⟨s0, s1⟩ := A3.out.c2
          have t0 := A3.out.free 0
          have t1 := A3.out.free 1
          have d1 : w.heap.size ≠ w3.heap.size := by omega
          have d2 : w3.heap.size ≠ w.heap.size := by omega
          have hsb := HS.out
          have e1 : IntKind.i64.wrap ((n : Int) + 1) = (n : Int) + 1 := by have := HNK.out; rw [IntKind.wrap_i64]; omega
          have AZ := hideB2 ((A3.out.set2 (.string s) (.int .i64 (k' : Int))).alloc (.cells #[.string s, .int .i64 (k' : Int)] 25))
          have HBZ := hideB2 (below_then (below_set2 (g := w.heap.size) HB3.out (Nat.le_refl _) (.string s) (.int .i64 (k' : Int))) (below_a1 ((w3.setCell ⟨w.heap.size, 0, none⟩ (.string s)).setCell ⟨w.heap.size, 1, none⟩ (.int .i64 (k' : Int))) (.cells #[.string s, .int .i64 (k' : Int)] 25)))
          go_wp2
          refine ⟨⟨k', n + 1, hle2, by go_num, by have := HNK.out; omega, AZ.out, HBZ.out, hF⟩, ?_⟩
          rw [curAt_blk AZ.out, hm.out]
          omega
  · have hbig' : (60000 : Int) < (s.size : Int) := by omega
    have hF := hideB2 (gramV_big hbig)
    clear hbig
    go_enter Tryd.func4, Tryd.ntmps4
    go_wp2
    go_ret
    exact ⟨by rw [hF.out]; rfl, Below.refl _ _⟩
end Go.Proofs.YtffjpidjhcnnmabDoor
namespace Go.Proofs.YtffjpidjhcnnmabDoor
set_option linter.unusedVariables false
set_option linter.unusedSimpArgs false
open Go.ChangeShapes Go.WideShapes Go.ChangeAt Go.RowKit
open Go.ChangeMaps (open_string shut_string)
theorem Tryd.own : ownKnob Tryd.prog.godebug = none := by kernel_rfl
theorem Tryd.laidOut : laidOutB Tryd.prog = true := by kernel_rfl
/-- What the walk is told of a slice of integers that came in: it is nil; or it leads to a row of 'cap' cells, the numbers 'zs' (the first 'len' are its elements, the rest its spare room), each fitting its kind. -/
def IsRow (k : IntKind) (w : World) (a : Option Addr) (len cap : Nat) (zs : List Int) : Prop :=
  (a = none ∧ len = 0 ∧ cap = 0 ∧ zs = []) ∨
  ∃ x, a = some x ∧ len ≤ cap ∧ cap ≤ maxLen ∧ zs.length = cap ∧ (∀ i, i < zs.length → w.cell? (x.add i) = some (.int k (zs.getD i 0))) ∧ ∀ n ∈ zs, (Lit.int k n).wf = true

end Go.Proofs.YtffjpidjhcnnmabDoor
namespace Go.Proofs.YtffjpidjhcnnmabDoor
set_option linter.unusedVariables false
set_option linter.unusedSimpArgs false
open Go.ChangeShapes Go.WideShapes Go.ChangeAt Go.RowKit

/-- A block's cells, laid anew. -/
def laidRow (cs : Array Value) : Obj → Obj
  | .cells _ t frozen => .cells cs t frozen
  | o => o
theorem laid_mem {P : Program} {w : World} : ∀ {l : List (String × DataW Unit)} {ps : List MemPlace}, DataW.LaidVars P w l ps → ∀ (n : String) (d : DataW Unit), (n, d) ∈ l →
    ∃ g t cs fuel p, P.globalNamed n = some g ∧ (P.globals[g]?).map (·.type) = some t ∧ w.var? P n = some cs ∧ DataW.trod (fun _ => ()) P w 0 (fun _ => true) false fuel t cs.toList = some (d, p)
  | [], _, _, n, d, hm => by simp at hm
  | (n0, d0) :: r, ps, h, n, d, hm => by
    obtain ⟨g, t, cs, fuel, p, q, h1, h2, h3, h4, h5, _⟩ := h
    rcases List.mem_cons.1 hm with e | e
    · cases e
      exact ⟨g, t, cs, fuel, p, h1, h2, h3, h4⟩
    · exact laid_mem h5 n d e
end Go.Proofs.YtffjpidjhcnnmabDoor
namespace Go.Proofs.YtffjpidjhcnnmabDoor
set_option linter.unusedVariables false
set_option linter.unusedSimpArgs false
open Go.ChangeShapes Go.WideShapes Go.ChangeAt Go.RowKit

/-- A table of texts as a row lists it, and what its cells hold. -/
def stabData {H : Type} (zs : List (List UInt8)) : DataW H := .agg (zs.map fun z => .lit (.string z))
theorem cells_of_stab {H : Type} {enc : TypeId × Value → H} {P : Program} {w : World} {base : Nat} {sp : Nat → Bool} {held : Bool} {fuel : Nat} {t e : TypeId} {n : Nat} {cs : List Value} {zs : List (List UInt8)} {p : List MemPlace}
    (ht : P.underlying t = some (.array n e)) (he : P.underlying e = some .string) (hce : P.cellsOf e = 1) (hct : P.cellsOf t = n)
    (h : DataW.trod enc P w base sp held fuel t cs = some (stabData zs, p)) : cs = zs.map fun z => Value.string ⟨z.toArray⟩ := by
  cases fuel with
  | zero => simp [DataW.trod] at h
  | succ fuel =>
    simp only [DataW.trod, ht, hce, hct, Nat.mul_one] at h
    split at h
    · rename_i hl
      obtain ⟨xs, hm, hx⟩ := Option.map_eq_some_iff.1 h
      have hxs : xs.map (·.1) = zs.map fun z => (DataW.lit (.string z) : DataW H) := by
        have := congrArg Prod.fst hx
        simpa [stabData] using this
      have hxl : xs.length = n := by simpa using Lib.mapM_length hm
      have hzl : zs.length = n := by
        have := congrArg List.length hxs
        simp at this
        omega
      apply List.ext_getElem?
      intro i
      by_cases hi : i < n
      · obtain ⟨b, hb, hf⟩ := Lib.mapM_at hm i i (by simp [hi])
        obtain ⟨z, hc, rfl, _⟩ := DataW.trod_string he hf
        have h1 : cs[i]? = some (.string z) := by
          have := congrArg (·[0]?) hc
          simpa [List.getElem?_take, List.getElem?_drop] using this
        have h2 : (xs.map (·.1))[i]? = some (DataW.lit (.string z.data.toList) : DataW H) := by simp [hb]
        rw [hxs] at h2
        simp only [List.getElem?_map, Option.map_eq_some_iff, DataW.lit.injEq, Lit.string.injEq] at h2
        obtain ⟨z', hz', rfl⟩ := h2
        simp [h1, hz']
      · rw [List.getElem?_eq_none (by omega), List.getElem?_eq_none (by simp; omega)]
    · cases h
theorem trodVars_one' {H : Type} {enc : TypeId × Value → H} {P : Program} {w : World} {sp : Nat → Bool} {n : String} : ∀ {gs : List (DataW H)} {ps : List MemPlace}, DataW.TrodVars enc P w sp [n] gs ps → ∃ a, gs = [a]
  | [a], _, _ => ⟨a, rfl⟩
  | [], _, h => h.elim
  | _ :: _ :: _, _, h => by obtain ⟨_, _, _, _, _, _, _, _, _, _, h, _⟩ := h; exact h.elim
theorem trodVars_three' {H : Type} {enc : TypeId × Value → H} {P : Program} {w : World} {sp : Nat → Bool} {n0 n1 n2 : String} : ∀ {gs : List (DataW H)} {ps : List MemPlace}, DataW.TrodVars enc P w sp [n0, n1, n2] gs ps → ∃ a b c, gs = [a, b, c]
  | [a, b, c], _, _ => ⟨a, b, c, rfl⟩
  | [], _, h => h.elim
  | [_], _, h => by obtain ⟨_, _, _, _, _, _, _, _, _, _, h, _⟩ := h; exact h.elim
  | [_, _], _, h => by
    obtain ⟨_, _, _, _, _, _, _, _, _, _, h, _⟩ := h
    obtain ⟨_, _, _, _, _, _, _, _, _, _, h, _⟩ := h
    exact h.elim
  | _ :: _ :: _ :: _ :: _, _, h => by
    obtain ⟨_, _, _, _, _, _, _, _, _, _, h, _⟩ := h
    obtain ⟨_, _, _, _, _, _, _, _, _, _, h, _⟩ := h
    obtain ⟨_, _, _, _, _, _, _, _, _, _, h, _⟩ := h
    exact h.elim

theorem array6 {α : Type} {cs : Array α} (h : cs.size = 6) : ∃ c0 c1 c2 c3 c4 c5, cs = #[c0, c1, c2, c3, c4, c5] := by
  obtain ⟨l⟩ := cs
  match l, h with
  | [c0, c1, c2, c3, c4, c5], _ => exact ⟨c0, c1, c2, c3, c4, c5, rfl⟩
/-- A struct of six ints, by value, opened. -/
theorem open_civ {H : Type} {enc : TypeId × Value → H} {P : Program} {w : World} {base : Nat} {spare : Nat → Bool} {held : Bool} {r : Reach} {b0 : Nat} {t : TypeId} {f0 f1 f2 f3 f4 f5 : Field} {v : Value} {d : DataW H} {p : List MemPlace}
    (hs : P.underlying t = some (.struct #[f0, f1, f2, f3, f4, f5])) (hone : Go.Deep.oneCellFields P #[f0, f1, f2, f3, f4, f5] = true) (hC : P.cellsOf t = 6)
    (e0 : P.underlying f0.type = some (.int .i64)) (e1 : P.underlying f1.type = some (.int .i64)) (e2 : P.underlying f2.type = some (.int .i64)) (e3 : P.underlying f3.type = some (.int .i64)) (e4 : P.underlying f4.type = some (.int .i64)) (e5 : P.underlying f5.type = some (.int .i64))
    (hv : Value.okWide P w r b0 t v) (h : DataW.Trod enc P w base spare held t v d p) :
    ∃ a b c d e f : Int, v = civ a b c d e f ∧ (Lit.int .i64 a).wf = true ∧ (Lit.int .i64 b).wf = true ∧ (Lit.int .i64 c).wf = true ∧ (Lit.int .i64 d).wf = true ∧ (Lit.int .i64 e).wf = true ∧ (Lit.int .i64 f).wf = true := by
  obtain ⟨cs, rfl, hsz⟩ := okWide_struct hs hv
  obtain ⟨c0, c1, c2, c3, c4, c5, rfl⟩ := array6 (hsz.trans hC)
  obtain ⟨fuel, hf⟩ := h
  obtain ⟨xs, n, _, _, hl, hlen, hf⟩ := DataW.trod_struct hs hf
  obtain ⟨o0, k0⟩ := Go.Deep.hone_of hone 0 f0 rfl
  obtain ⟨o1, k1⟩ := Go.Deep.hone_of hone 1 f1 rfl
  obtain ⟨o2, k2⟩ := Go.Deep.hone_of hone 2 f2 rfl
  obtain ⟨o3, k3⟩ := Go.Deep.hone_of hone 3 f3 rfl
  obtain ⟨o4, k4⟩ := Go.Deep.hone_of hone 4 f4 rfl
  obtain ⟨o5, k5⟩ := Go.Deep.hone_of hone 5 f5 rfl
  have one : ∀ {ty : TypeId} {c : Value} {x : Option (DataW H × List MemPlace)}, P.underlying ty = some (.int .i64) → x.isSome = true → DataW.trod enc P w base spare held n ty [c] = x → ∃ z : Int, c = .int .i64 z ∧ (Lit.int .i64 z).wf = true := by
    intro ty c x hu hx ht
    obtain ⟨y, hy⟩ := Option.isSome_iff_exists.1 hx
    rw [hy] at ht
    obtain ⟨z, hz, _, hw⟩ := DataW.trod_int hu ht
    exact ⟨z, by simpa using hz, hw⟩
  have g : ∀ j, j < 6 → (xs[j]?).isSome = true := by
    intro j hj
    have : xs.length = 6 := by simpa using hlen
    rw [List.getElem?_eq_getElem (by omega)]; rfl
  obtain ⟨a, rfl, wa⟩ := one e0 (g 0 (by omega)) (by simpa [Value.cells, o0, k0] using hf 0 f0 rfl)
  obtain ⟨b, rfl, wb⟩ := one e1 (g 1 (by omega)) (by simpa [Value.cells, o1, k1] using hf 1 f1 rfl)
  obtain ⟨c, rfl, wc⟩ := one e2 (g 2 (by omega)) (by simpa [Value.cells, o2, k2] using hf 2 f2 rfl)
  obtain ⟨d', rfl, wd⟩ := one e3 (g 3 (by omega)) (by simpa [Value.cells, o3, k3] using hf 3 f3 rfl)
  obtain ⟨e, rfl, we⟩ := one e4 (g 4 (by omega)) (by simpa [Value.cells, o4, k4] using hf 4 f4 rfl)
  obtain ⟨f, rfl, wf⟩ := one e5 (g 5 (by omega)) (by simpa [Value.cells, o5, k5] using hf 5 f5 rfl)
  exact ⟨a, b, c, d', e, f, rfl, wa, wb, wc, wd, we, wf⟩
theorem montab_of_laid {W : World} {l : List (String × DataW Unit)} (hm : ("loop.example/g00651/impl.monthLengths", Rows.laid_loop_example_g00651_impl_monthLengths) ∈ l) (h : laidMet Tryd.prog l W) : MonTab W := by
  obtain ⟨ps, hl, _⟩ := h
  obtain ⟨g, t, cs, fuel, p, h1, h2, h3, h4⟩ := laid_mem hl _ _ hm
  have hg : Tryd.prog.globalNamed "loop.example/g00651/impl.monthLengths" = some 1 := by kernel_rfl
  have ht : (Tryd.prog.globals[1]?).map (·.type) = some 82 := by kernel_rfl
  obtain rfl := Option.some.inj (hg.symm.trans h1)
  obtain rfl := Option.some.inj (ht.symm.trans h2)
  have hc := Lib.cells_of_tab (k := .i64) (zs := [0, 31, 28, 31, 30, 31, 30, 31, 31, 30, 31, 30, 31]) Tryd.underlying82 Tryd.underlying3 (by kernel_rfl) (by kernel_rfl) h4
  have hT : Lib.TabIs Tryd.prog W "loop.example/g00651/impl.monthLengths" .i64 [0, 31, 28, 31, 30, 31, 30, 31, 31, 30, 31, 30, 31] := by
    unfold Lib.TabIs
    rw [h3, ← hc]
  intro k hk
  exact hT.cell hg k hk
end Go.Proofs.YtffjpidjhcnnmabDoor
