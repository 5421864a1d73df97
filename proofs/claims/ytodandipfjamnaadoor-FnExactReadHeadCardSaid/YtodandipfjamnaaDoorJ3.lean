/-
  The class of the worlds that have grown out of one: for regions that draw their order and whose callees make memory of their own. · The marks of the exact laws: their texts; worlds that have grown but for one block. · What the exact laws do with fields: marks, and whether they are held. · The exact laws' marks over rows of texts. · Rows of texts that are written to: marks; what the exact laws do with them. · Chapter 5: rows of fields of the call's own; counts by name in a map. The program's side of Without. · Chapter 5: those that do not have a name; one put in. Both sides. · Chapter 5: Without, the specification's side; With, both sides. · Chapter 6: marks on a message; what a reader hands back. · Contracts of the library's functions at this program, laid off the kit's shelf in plain words. · Chapter 6: a line cut at its blanks, by the library's own cutting. · The walks over chapter 1: cursors. · The walks over chapter 1: a cursor's methods. · The walks over chapter 1: spec.TakeLine. · The walks over chapter 1: impl.TakeLine.
-/
import Derived.Test.YtodandipfjamnaaDoorJ0
import Derived.Test.YtodandipfjamnaaDoorJ2
import Derived.Lib.ConvBytes
import Derived.Lib.SmallJoins
import Derived.Deep.RegionWith
import Derived.Deep.QuietTactic
import Derived.BigQuiet
import Derived.Maps.OwnOps
import Derived.Maps.OwnSet
import Derived.Deep.AppendLies
import Derived.Deep.DeepCutAuto
import Derived.Test.YtodandipfjamnaaDoorJ1
import Derived.Shelf.Strings.SplitCore
import Derived.Test.YtodandipfjamnaaDoorProg
import Derived.Shelf.Strings.Split
import Derived.Lib.IndexBytes
namespace Go.Proofs.YtodandipfjamnaaDoor
set_option linter.unusedVariables false
set_option linter.unusedSimpArgs false
open Go.RowKit
structure Gr (W : World) where
  w : World
  h : Below W.heap.size W w
def grw (W : World) (V : Gr W) : World := V.w
theorem grw_below (W : World) (V : Gr W) : Below W.heap.size W (grw W V) := V.h
theorem grw_cell {W : World} {b : Nat} (o : Nat) (h : b < W.heap.size) (V : Gr W) : (grw W V).cell? ⟨b, o, none⟩ = W.cell? ⟨b, o, none⟩ := (grw_below W V).cell (p := ⟨b, o, none⟩) h
theorem grw_some {W : World} {b o : Nat} {v : Value} (h : W.cell? ⟨b, o, none⟩ = some v) (V : Gr W) : (grw W V).cell? ⟨b, o, none⟩ = some v := by
  rw [grw_cell o (World.block_lt_of_cell? _ _ h) V]; exact h
theorem grow_drawn (w : World) : ∃ V : Gr w, { w with drawn := w.drawn + 1 } = grw w V := ⟨⟨w.drew, (Below.refl _ w).drew⟩, rfl⟩
theorem wp_region_grow {P : Program} {id : Nat} {Q : Exit → Act → World → Prop} {a : Act} {w : World} {l : List Oper} (hm : P.follows .mixedOrders = true) (hB : Region.lexB .any l.toArray = true)
    (h : Nonempty (Gr w) → wpQuiet P l.toArray (fun w' => ∃ V, w' = grw w V) (fun a' => ∀ w', (∃ V, w' = grw w V) → Q .normal a' w') l a) : (Code.region id l.toArray true).wp P Q a w :=
  wp_region_quiet (C := fun w' => ∃ V, w' = grw w V) hm hB (grow_drawn w) (by simpa using h ⟨⟨w, Below.refl _ _⟩⟩)
theorem wp_region_grow_tail {P : Program} {id : Nat} {Q : Exit → Act → World → Prop} {a : Act} {w : World} {l : List Oper} (n : Nat) (hm : P.follows .mixedOrders = true) (hB : Region.lexTailB .any l.toArray n = true)
    (h : Nonempty (Gr w) → wpQuiet P l.toArray (fun w' => ∃ V, w' = grw w V) (fun a' => ∀ w', (∃ V, w' = grw w V) → wpList P l.toArray Q (l.drop n) a' w') (l.take n) a) : (Code.region id l.toArray true).wp P Q a w :=
  wp_region_quiet_tail (fun w' => ∃ V, w' = grw w V) n hm hB (grow_drawn w) (h ⟨⟨w, Below.refl _ _⟩⟩)
theorem grow_call {P : Program} {f : FuncId} {args : Array Value} {W : World} {V : Gr W} {v : Value}
    (h : Calls P f args (grw W V) fun e w' => e = .returned v ∧ Below (grw W V).heap.size (grw W V) w') : Calls P f args (grw W V) fun e w'' => e = .returned v ∧ ∃ V', w'' = grw W V' :=
  h.mono fun _ w'' ⟨he, hb⟩ => ⟨he, ⟨w'', below_then (grw_below W V) hb⟩, rfl⟩
theorem grow_same {P : Program} {f : FuncId} {args : Array Value} {W : World} {V : Gr W} {v : Value}
    (h : Calls P f args (grw W V) fun e w' => e = .returned v ∧ w' = grw W V) : Calls P f args (grw W V) fun e w'' => e = .returned v ∧ ∃ V', w'' = grw W V' :=
  h.mono fun _ w'' ⟨he, hb⟩ => ⟨he, V, hb⟩
theorem grow_drew {P : Program} {f : FuncId} {args : Array Value} {W : World} {V : Gr W} {v : Value}
    (h : Calls P f args (grw W V) fun e w' => e = .returned v ∧ ∃ m, w' = (grw W V).drewN m) : Calls P f args (grw W V) fun e w'' => e = .returned v ∧ ∃ V', w'' = grw W V' :=
  h.mono fun _ w'' ⟨he, m, hb⟩ => ⟨he, ⟨w'', by rw [hb]; exact (grw_below W V).trans ⟨rfl, rfl, rfl, Nat.le_refl _, fun _ _ => rfl⟩⟩, rfl⟩
end Go.Proofs.YtodandipfjamnaaDoor
namespace Go.Proofs.YtodandipfjamnaaDoor
set_option linter.unusedVariables false
set_option linter.unusedSimpArgs false
open Go.RowKit
/-- The digits of k ahead of what is there. -/
def mtF : Nat → Nat → List UInt8 → List UInt8
  | 0, _, out => out
  | f + 1, k, out => if k = 0 then out else mtF f (k / 10) (UInt8.ofNat (48 + k % 10) :: out)
theorem mtF_zero (f : Nat) (out : List UInt8) : mtF f 0 out = out := by cases f <;> rfl
theorem mtF_pos {f k : Nat} (h : 0 < k) (out : List UInt8) : mtF (f + 1) k out = mtF f (k / 10) (UInt8.ofNat (48 + k % 10) :: out) := by rw [mtF, if_neg (by omega)]
def mtB (k : Nat) : ByteArray := ⟨(109 :: mtF 8 k []).toArray⟩
theorem convM {P : Program} (src e dst : TypeId) (hs : P.underlying src = some (.slice e)) (he : P.underlying e = some (.int .u8)) (hd : P.underlying dst = some .string) (w : World) (b cap : Nat) (x : Int) (hc : w.cell? ⟨b, 0, none⟩ = some (.int .u8 x)) :
    (convert src dst (.slice (some ⟨b, 0, none⟩) 1 cap)).run P w = .ok (.string ⟨#[UInt8.ofNat x.toNat]⟩) w :=
  run_convert_bytes_arg (P := P) w src e hs he b 0 1 cap [x] rfl (fun i hi => by obtain rfl : i = 0 := by omega
                                                                                 exact hc) dst hd
theorem mt_eq (r : Nat) (l : List UInt8) : Value.string (⟨#[48 + UInt8.ofNat r]⟩ ++ ⟨l.toArray⟩) = .string ⟨(UInt8.ofNat (48 + r) :: l).toArray⟩ := by
  have h : (ByteArray.mk #[48 + UInt8.ofNat r] ++ ByteArray.mk l.toArray) = ⟨(UInt8.ofNat (48 + r) :: l).toArray⟩ := by
    apply bytes_ext
    rw [Go.Joins.data_append]; simp
  rw [h]
set_option maxHeartbeats 1000000 in
theorem markText_any (k : Nat) (w : World) (h1 : 0 < k) (h2 : k ≤ 4194304) :
    Calls Tryd.prog 31 #[.int .i64 (k : Int)] w fun e w' => e = .returned (.string (mtB k)) ∧ Below w.heap.size w w' := by
  have kb := fun (w : World) (b cap : Nat) (x : Int) => convM (P := Tryd.prog) 62 5 9 Tryd.underlying62 Tryd.underlying5 Tryd.underlying9 w b cap x
  have hn0 : ¬ (k : Int) ≤ 0 := by omega
  go_enter Tryd.func31, Tryd.ntmps31
  go_wp2
  go_loopw [0, 3] (fun kk o wr => ∃ (f j : Nat) (l : List UInt8), kk = .int .i64 (j : Int) ∧ o = .string ⟨l.toArray⟩ ∧ mtF 8 k [] = mtF f j l ∧ j < 10 ^ f ∧ l.length + f ≤ 8 ∧ j ≤ 4194304 ∧ Below w.heap.size w wr) (fun kk _ _ => (intOf kk).toNat)
  case atStart => exact ⟨8, k, [], rfl, rfl, rfl, by omega, by simp, h2, Below.refl _ _⟩
  case round =>
    obtain ⟨f, j, l, rfl, rfl, hj, hjf, hl, hjm, hbw⟩ := hrel
    have HJ : Hid (mtF 8 k [] = mtF f j l) := hj
    have hsl : (ByteArray.mk l.toArray).size ≤ 8 := by show l.toArray.size ≤ _; simp; omega
    clear hj
    by_cases h0 : 0 < j
    · have hp : (0 : Int) < (j : Int) := by omega
      obtain ⟨f, rfl⟩ : ∃ f', f = f' + 1 := by
        cases f with
        | zero => simp at hjf; omega
        | succ f => exact ⟨f, rfl⟩
      obtain ⟨q, r, hqr, hr⟩ : ∃ q r : Nat, j = 10 * q + r ∧ r < 10 := ⟨j / 10, j % 10, by omega, by omega⟩
      have HS : Hid (mtF 8 k [] = mtF f q (UInt8.ofNat (48 + r) :: l)) := by
        show _ = _
        rw [HJ.out, mtF_pos h0, show j / 10 = q from by omega, show j % 10 = r from by omega]
      have hqf : q < 10 ^ f := by rw [Nat.pow_succ] at hjf; omega
      have HQF := hideB2 hqf
      have HLF := hideB2 hl
      have e1 : IntKind.i64.wrap ((j : Int) / 10) = (q : Int) := by rw [IntKind.wrap_i64]; omega
      have e2 : ((j : Int)).tmod 10 = (r : Int) := by rw [Int.tmod_eq_emod_of_nonneg (by omega)]; omega
      have e3 : IntKind.i64.wrap (48 + (r : Int)) = 48 + (r : Int) := by rw [IntKind.wrap_i64]; omega
      have e4 : IntKind.u8.wrap (48 + (r : Int)) = 48 + (r : Int) := by rw [IntKind.wrap_u8]; omega
      have HQ : Hid (j = 10 * q + r) := hqr
      have hl9 : l.length ≤ 8 := by omega
      clear hqr hqf hl hjf
      go_wp2
      go_round
      case rel => exact ⟨f, q, UInt8.ofNat (48 + r) :: l, by go_num, mt_eq r l, HS.out, HQF.out, by have := HLF.out; simp; omega, by have := HQ.out; omega, hbw.alloc hbw.size _⟩
      case measure => have := HQ.out; simp [intOf] <;> omega
    · have hp : ¬ (0 : Int) < (j : Int) := by omega
      have HE : Hid (mtB k = ⟨#[109]⟩ ++ ⟨l.toArray⟩) := by
        show _ = _
        obtain rfl : j = 0 := by omega
        unfold mtB; rw [HJ.out, mtF_zero]
        apply bytes_ext
        rw [Go.Joins.data_append]; simp
      go_wp2
      go_ret
      exact ⟨ret_str HE.out, hbw⟩
theorem grown_then {w w1 w2 : World} {r : Option Nat} (h : w.grownBy w1 r) (hb : Below w1.heap.size w1 w2) : w.grownBy w2 r :=
  ⟨hb.os.trans h.os, hb.tape.trans h.tape, hb.output.trans h.output, Nat.le_trans h.size hb.size, fun k hk hn => by rw [hb.block k (Nat.lt_of_lt_of_le hk h.size)]; exact h.block k hk hn⟩
theorem grown_set {w w1 : World} {g : Nat} (h : w.grownBy w1 (some g)) (o : Nat) (u : Value) : w.grownBy (w1.setCell ⟨g, o, none⟩ u) (some g) :=
  World.grownBy.trans h ⟨rfl, rfl, rfl, by simp [World.setCell], fun k _ hne => Below.heap_setCell _ _ _ _ (fun e => hne (by simp at e; rw [e]))⟩
theorem grown_refl (w : World) (r : Option Nat) : w.grownBy w r := ⟨rfl, rfl, rfl, Nat.le_refl _, fun _ _ _ => rfl⟩
theorem Blk.gb {w w' : World} {b : Nat} {c : Array Value} {t : TypeId} {r : Option Nat} (h : Blk w b c t) (k : w.grownBy w' r) (hne : r ≠ some b) : Blk w' b c t := by
  unfold Blk at *
  rw [k.block b (Array.getElem?_eq_some_iff.1 h).1 (fun e => hne e.symm)]
  exact h
theorem grown_below {w w1 w2 : World} {B : Nat} {r : Option Nat} (h : Below B w w1) (k : w1.grownBy w2 r) (hr : ∀ g, r = some g → B ≤ g) (hB : B ≤ w1.heap.size) : Below B w w2 :=
  h.trans ⟨k.os, k.tape, k.output, k.size, fun b hb => k.block b (by omega) (fun e => by have := hr b e.symm; omega)⟩
end Go.Proofs.YtodandipfjamnaaDoor
namespace Go.Proofs.YtodandipfjamnaaDoor
set_option linter.unusedVariables false
set_option linter.unusedSimpArgs false
open Go.RowKit
/-- The marks of n fields. -/
def marksF (n : Nat) : List Fd := (List.range n).map fun i => (mtB (2 * i + 1), mtB (2 * i + 2))
theorem marksF_len (n : Nat) : (marksF n).length = n := by simp [marksF]
theorem marksF_at (n j : Nat) (h : j < n) : fdAt (marksF n) j = (mtB (2 * j + 1), mtB (2 * j + 2)) := by
  rw [fdAt_get (by rw [marksF_len]; exact h)]; simp [marksF]
theorem marksF_next (l : List Fd) (k : Nat) (h : k < l.length) : (marksF k ++ l.drop k).set k (mtB (2 * k + 1), mtB (2 * k + 2)) = marksF (k + 1) ++ l.drop (k + 1) := by
  rw [List.set_append_right _ _ (by rw [marksF_len]; exact Nat.le_refl _), marksF_len, Nat.sub_self, List.drop_eq_getElem_cons h, List.set_cons_zero]
  simp [marksF, List.range_succ]
theorem fdAt_set (l : List Fd) (k : Nat) (x : Fd) (h : k < l.length) : fdAt (l.set k x) k = x := by
  rw [fdAt_get (by rw [List.length_set]; exact h), List.getElem_set]; simp
theorem fdAt_set_ne (l : List Fd) (k j : Nat) (x : Fd) (h : j < l.length) (hne : j ≠ k) : fdAt (l.set k x) j = fdAt l j := by
  rw [fdAt_get (by rw [List.length_set]; exact h), List.getElem_set, if_neg (Ne.symm hne), fdAt_get h]
/-- Number k gets a new name. -/
theorem RowF.setN {w : World} {b : Nat} {l : List Fd} (h : RowF w b l) (k : Nat) (d : ByteArray) (hk : k < l.length) : RowF (w.setCell ⟨b, k * 2, none⟩ (.string d)) b (l.set k (d, (fdAt l k).2)) := by
  refine ⟨fun j hj => ?_, fun j hj => ?_, fun j => ?_, by simpa [World.setCell] using h.lt⟩
  · rw [List.length_set] at hj
    by_cases e : j = k
    · subst e
      rw [fdAt_set l j _ hj, World.cell?_setCell_same _ _ _ (h.dat j hj)]
    · rw [fdAt_set_ne l k j _ hj e, World.cell?_setCell_other _ _ _ _ (by intro hh; injection hh with _ h2; omega), h.dat j hj]
  · rw [List.length_set] at hj
    rw [World.cell?_setCell_other _ _ _ _ (by intro hh; injection hh with _ h2; omega), h.saf j hj]
    by_cases e : j = k
    · subst e
      rw [fdAt_set l j _ hj]
    · rw [fdAt_set_ne l k j _ hj e]
  · rw [World.frozen?_setCell]
    exact h.free j
/-- Number k gets a new value. -/
theorem RowF.setV {w : World} {b : Nat} {l : List Fd} (h : RowF w b l) (k : Nat) (d : ByteArray) (hk : k < l.length) : RowF (w.setCell ⟨b, k * 2 + 1, none⟩ (.string d)) b (l.set k ((fdAt l k).1, d)) := by
  refine ⟨fun j hj => ?_, fun j hj => ?_, fun j => ?_, by simpa [World.setCell] using h.lt⟩
  · rw [List.length_set] at hj
    rw [World.cell?_setCell_other _ _ _ _ (by intro hh; injection hh with _ h2; omega), h.dat j hj]
    by_cases e : j = k
    · subst e
      rw [fdAt_set l j _ hj]
    · rw [fdAt_set_ne l k j _ hj e]
  · rw [List.length_set] at hj
    by_cases e : j = k
    · subst e
      rw [fdAt_set l j _ hj, World.cell?_setCell_same _ _ _ (h.saf j hj)]
    · rw [fdAt_set_ne l k j _ hj e, World.cell?_setCell_other _ _ _ _ (by intro hh; injection hh with _ h2; omega), h.saf j hj]
  · rw [World.frozen?_setCell]
    exact h.free j
set_option maxHeartbeats 2000000 in
theorem markFieldS_any (v : Value) (l : List Fd) (w : World) (hv : SlF w v l) (hm : l.length ≤ 1048576) :
    Calls Tryd.prog 17 #[v, .int .i64 1] w fun e w' => e = .returned (.int .i64 (1 + 2 * (l.length : Int))) ∧ SlF w' v (marksF l.length) ∧ w.grownBy w' v.ownBlock := by
  obtain ⟨a, c0, rfl⟩ := hv.form
  generalize hn : l.length = n at *
  have HN := hideB2 hn
  have HV := hideB2 hv
  clear hn hv
  go_enter Tryd.func17, Tryd.ntmps17
  go_wp2
  go_loopw [1, 5] (fun kk i wr => ∃ k : Nat, k ≤ n ∧ i = .int .i64 k ∧ kk = .int .i64 (1 + 2 * (k : Int)) ∧ SlF wr (.slice a n c0) (marksF k ++ l.drop k) ∧ w.grownBy wr (Value.slice a n c0).ownBlock) (fun _ i _ => n - (intOf i).toNat)
  case atStart => exact ⟨0, Nat.zero_le _, rfl, rfl, by simpa [marksF] using HV.out, grown_refl _ _⟩
  case round =>
    obtain ⟨k, hk, rfl, rfl, hs, hgr⟩ := hrel
    have hlen : (marksF k ++ l.drop k).length = n := by rw [List.length_append, marksF_len, List.length_drop, HN.out]; omega
    by_cases hlt : k < n
    · obtain ⟨b, rfl, hr⟩ := hs.row (by rw [hlen]; omega)
      have HNX := hideB2 (marksF_next l k (by rw [HN.out]; exact hlt))
      have HLN := hideB2 hlen
      have HR := hideB2 hr
      have HGR := hideB2 hgr
      clear hr hgr hs hlen
      have e0 : 1 + 2 * (k : Int) = ((2 * k + 1 : Nat) : Int) := by omega
      rw [e0]
      go_wp2_with fail
      refine (markText_any (2 * k + 1) _ (by omega) (by omega)).mono ?_
      rintro e w2 ⟨rfl, hb2⟩
      have hr2 := HR.out.keep hb2
      have hd0 := hr2.dat k (by rw [HLN.out]; exact hlt)
      have hf0 := hr2.free (k * 2)
      have R1 := hr2.setN k (mtB (2 * k + 1)) (by rw [HLN.out]; exact hlt)
      have G1 := grown_set (grown_then HGR.out hb2) (k * 2) (.string (mtB (2 * k + 1)))
      have HR1 := hideB2 R1
      have HG1 := hideB2 G1
      clear R1 G1 hr2 hb2 HR HGR e0
      generalize hm1 : mtB (2 * k + 1) = mt at *
      have HM1 := hideB2 hm1
      clear hm1
      have e1 : IntKind.i64.wrap (((2 * k + 1 : Nat) : Int) + 1) = ((2 * k + 2 : Nat) : Int) := by rw [IntKind.wrap_i64]; omega
      go_wp2_with fail
      have e2 : ((2 * k + 1 : Nat) : Int) + 1 = ((2 * k + 2 : Nat) : Int) := by omega
      first | rw [e2] | skip
      refine (markText_any (2 * k + 2) _ (by omega) (by omega)).mono ?_
      rintro e w3 ⟨rfl, hb3⟩
      have hr3 := HR1.out.keep hb3
      have hlen3 : ((marksF k ++ l.drop k).set k (mt, (fdAt (marksF k ++ l.drop k) k).2)).length = n := by rw [List.length_set]; exact HLN.out
      have hd1 := hr3.saf k (by rw [hlen3]; exact hlt)
      have hf1 := hr3.free (k * 2 + 1)
      have R2 := hr3.setV k (mtB (2 * k + 2)) (by rw [hlen3]; exact hlt)
      rw [fdAt_set _ k _ (by rw [HLN.out]; exact hlt), List.set_set] at R2
      simp only at R2
      rw [HNX.out] at R2
      have HR2 := hideB2 R2
      have HG2 := hideB2 (grown_set (grown_then HG1.out hb3) (k * 2 + 1) (.string (mtB (2 * k + 2))))
      clear R2 hr3 hb3 HR1 HG1 HNX HM1 hd0 hf0
      generalize (fdAt ((marksF k ++ l.drop k).set k (mt, (fdAt (marksF k ++ l.drop k) k).2)) k).2 = y1 at *
      generalize mtB (2 * k + 2) = mt2 at *
      go_wp2
      refine ⟨⟨k + 1, by omega, by go_num, by simp; omega, ?_, HG2.out⟩, by simp [intOf]; omega⟩
      exact HR2.out.sl (by rw [List.length_append, marksF_len, List.length_drop, HN.out]; omega) c0
    · obtain rfl : k = n := by omega
      have hsn : SlF wr (.slice a k c0) (marksF k) := by
        have hh := hs
        rwa [List.drop_of_length_le (by rw [HN.out]; exact Nat.le_refl _), List.append_nil] at hh
      go_wp2
      go_ret
      exact ⟨rfl, hsn, hgr⟩
set_option maxHeartbeats 2000000 in
theorem heldFieldS_any (v : Value) (n : Nat) (w : World) (hv : SlF w v (marksF n)) (hm : n ≤ 1048576) :
    Calls Tryd.prog 18 #[v, .int .i64 1] w fun e w' => e = .returned (.int .i64 (1 + 2 * (n : Int))) ∧ Below w.heap.size w w' := by
  obtain ⟨a, c0, rfl⟩ := hv.form
  have HV := hideB2 hv
  rw [marksF_len] at *
  clear hv
  go_enter Tryd.func18, Tryd.ntmps18
  go_wp2
  go_loopw [1, 5] (fun kk i wr => ∃ k : Nat, k ≤ n ∧ i = .int .i64 k ∧ kk = .int .i64 (1 + 2 * (k : Int)) ∧ Below w.heap.size w wr) (fun _ i _ => n - (intOf i).toNat)
  case atStart => exact ⟨0, Nat.zero_le _, rfl, rfl, Below.refl _ _⟩
  case round =>
    obtain ⟨k, hk, rfl, rfl, hb⟩ := hrel
    by_cases hlt : k < n
    · obtain ⟨b, rfl, hr⟩ := HV.out.row (by rw [marksF_len]; omega)
      have hr1 := hr.keep hb
      have p0 := hr1.dat k (by rw [marksF_len]; exact hlt)
      have p1 := hr1.saf k (by rw [marksF_len]; exact hlt)
      rw [marksF_at n k hlt] at p0 p1
      simp only at p0 p1
      have e0 : 1 + 2 * (k : Int) = ((2 * k + 1 : Nat) : Int) := by omega
      rw [e0]
      have z0 := fun V => grw_some p0 V
      have z1 := fun V => grw_some p1 V
      have HMT := hideB2 (fun V : Gr wr => markText_any (2 * k + 1) (grw wr V) (by omega) (by omega))
      have HMT2 := hideB2 (fun W : World => markText_any (2 * k + 2) W (by omega) (by omega))
      have HB := hideB2 hb
      generalize mtB (2 * k + 1) = mt at *
      generalize mtB (2 * k + 2) = mt2 at *
      have hmt : (mt.toList == mt.toList) = true := by simp
      have hmt2 : (mt2.toList == mt2.toList) = true := by simp
      clear hr hr1 hb e0 p0 p1
      go_wp2
      refine wp_region_grow ?_ ?_ ?_
      · kernel_rfl
      · kernel_rfl
      · intro hne
        repeat (go_big_quiet_step ((go_at_call 31; exact grow_call (HMT.out _))))
        refine wpQuiet_nil ?_
        rintro _ ⟨V, rfl⟩
        have hbb := hideB2 (below_then HB.out (grw_below wr V))
        have y1 := z1 V
        clear z0 z1 HMT HB
        generalize grw wr V = w3 at *
        have u1 := fun V => grw_some y1 V
        have e1 : IntKind.i64.wrap (((2 * k + 1 : Nat) : Int) + 1) = ((2 * k + 2 : Nat) : Int) := by rw [IntKind.wrap_i64]; omega
        go_wp2
        have e2 : ((2 * k + 1 : Nat) : Int) + 1 = ((2 * k + 2 : Nat) : Int) := by omega
        first | rw [e2] | skip
        refine wp_region_grow ?_ ?_ ?_
        · kernel_rfl
        · kernel_rfl
        · intro hne
          repeat (go_big_quiet_step ((go_at_call 31; exact grow_call (HMT2.out _))))
          refine wpQuiet_nil ?_
          rintro _ ⟨V, rfl⟩
          have hbc := hideB2 (below_then hbb.out (grw_below w3 V))
          clear u1 hbb HMT2
          generalize grw w3 V = w4 at *
          go_wp2
          exact ⟨⟨k + 1, by omega, by go_num, by simp; omega, hbc.out⟩, by simp [intOf]; omega⟩
    · obtain rfl : k = n := by omega
      go_wp2
      go_ret
      exact ⟨rfl, hb⟩
theorem SlF.own_lt {w : World} {s : Value} {l : List Fd} (h : SlF w s l) {g : Nat} (hg : s.ownBlock = some g) : g < w.heap.size := by
  rcases h with ⟨rfl, _⟩ | ⟨b, cap, rfl, hr⟩
  · cases hg
  · injection hg with hg; subst hg; exact hr.lt
theorem RowF.gb {w w' : World} {b : Nat} {l : List Fd} {r : Option Nat} (h : RowF w b l) (k : w.grownBy w' r) (hne : r ≠ some b) : RowF w' b l := by
  have hb : w'.heap[b]? = w.heap[b]? := k.block b h.lt (fun e => hne e.symm)
  refine ⟨fun j hj => ?_, fun j hj => ?_, fun j => ?_, Nat.lt_of_lt_of_le h.lt k.size⟩
  · exact (World.cell?_of_block (w := w) hb).trans (h.dat j hj)
  · exact (World.cell?_of_block (w := w) hb).trans (h.saf j hj)
  · have hf := h.free j
    unfold World.frozen? at *
    rw [hb]; exact hf
theorem SlF.gb {w w' : World} {s : Value} {l : List Fd} {r : Option Nat} (h : SlF w s l) (k : w.grownBy w' r) (hne : ∀ g, s.ownBlock = some g → r ≠ some g) : SlF w' s l := by
  rcases h with h | ⟨b, cap, rfl, hr⟩
  · exact .inl h
  · exact .inr ⟨b, cap, rfl, hr.gb k (hne b rfl)⟩
end Go.Proofs.YtodandipfjamnaaDoor
namespace Go.Proofs.YtodandipfjamnaaDoor
set_option linter.unusedVariables false
set_option linter.unusedSimpArgs false
open Go.RowKit
def marks (n : Nat) : List ByteArray := (List.range n).map fun j => mtB (j + 1)
theorem marks_len (n : Nat) : (marks n).length = n := by simp [marks]
theorem marks_at {n j : Nat} (h : j < n) : (marks n).getD j ⟨#[]⟩ = mtB (j + 1) := by simp [marks, List.getD, h]
theorem bcellM {W w1 : World} (hb : Below W.heap.size W w1) : (∀ b o, b < W.heap.size → w1.cell? ⟨b, o, none⟩ = W.cell? ⟨b, o, none⟩) ∧ (∀ b o, b < W.heap.size → w1.frozen? ⟨b, o, none⟩ = W.frozen? ⟨b, o, none⟩) :=
  ⟨fun b o h => hb.cell (p := ⟨b, o, none⟩) h, fun b o h => hb.frozen (p := ⟨b, o, none⟩) h⟩
theorem BufS.spot {w0 w : World} {g n cap : Nat} {l : List ByteArray} (h : BufS w0 w (.slice (some ⟨g, 0, none⟩) n cap) l) {j : Nat} (hj : j < l.length) : w.cell? ⟨g, j, none⟩ = some (.string (l.getD j ⟨#[]⟩)) ∧ w.frozen? ⟨g, j, none⟩ = false ∧ w0.heap.size ≤ g := by
  obtain ⟨g', cap', he, hg, _, hc⟩ := h.cells (by omega)
  injection he with e1 e2 e3
  injection e1 with e1
  injection e1 with e1
  subst e1; subst e2
  exact ⟨hc j hj, h.own.frozenAt j, hg⟩
theorem BufS.stored {w0 w : World} {g cap : Nat} {l : List ByteArray} (h : BufS w0 w (.slice (some ⟨g, 0, none⟩) l.length cap) l) {j : Nat} (hg : w0.heap.size ≤ g) (y : ByteArray) : BufS w0 (w.setCell ⟨g, j, none⟩ (.string y)) (.slice (some ⟨g, 0, none⟩) l.length cap) (l.set j y) := by
  refine ⟨h.below.setCell (p := ⟨g, j, none⟩) hg _, ?_⟩
  rw [List.length_set, List.map_set]
  exact (h.own.stored j (.string y)).1
theorem marks_set (l : List ByteArray) (j : Nat) (hj : j < l.length) : (marks j ++ l.drop j).set j (mtB (j + 1)) = marks (j + 1) ++ l.drop (j + 1) := by
  rw [List.set_append_right _ _ (by rw [marks_len]; exact Nat.le_refl _), marks_len, Nat.sub_self, List.drop_eq_getElem_cons hj, List.set_cons_zero]
  simp [marks, List.range_succ]
theorem marks_part (l : List ByteArray) (j : Nat) (hj : j ≤ l.length) : (marks j ++ l.drop j).length = l.length := by
  rw [List.length_append, marks_len, List.length_drop]; omega
end Go.Proofs.YtodandipfjamnaaDoor
namespace Go.Proofs.YtodandipfjamnaaDoor
set_option linter.unusedVariables false
set_option linter.unusedSimpArgs false
open Go.RowKit
def txAt (l : List ByteArray) (j : Nat) : ByteArray := l.getD j ⟨#[]⟩
theorem txAt_get {l : List ByteArray} {j : Nat} (h : j < l.length) : txAt l j = l[j] := by
  unfold txAt; rw [List.getD, List.getElem?_eq_getElem h]; rfl
/-- A row of texts in block b. -/
structure RowT (w : World) (b : Nat) (l : List ByteArray) : Prop where
  cell : ∀ j, j < l.length → w.cell? ⟨b, j, none⟩ = some (.string (txAt l j))
  free : ∀ j, w.frozen? ⟨b, j, none⟩ = false
  lt : b < w.heap.size
theorem RowT.keep {w w' : World} {b : Nat} {l : List ByteArray} (h : RowT w b l) (k : Below w.heap.size w w') : RowT w' b l :=
  ⟨fun j hj => by rw [k.cell (p := ⟨b, j, none⟩) h.lt]; exact h.cell j hj, fun j => by rw [k.frozen (p := ⟨b, j, none⟩) h.lt]; exact h.free j, Nat.lt_of_lt_of_le h.lt k.size⟩
theorem RowT.set {w : World} {b : Nat} {l : List ByteArray} (h : RowT w b l) (k : Nat) (d : ByteArray) (hk : k < l.length) : RowT (w.setCell ⟨b, k, none⟩ (.string d)) b (l.set k d) := by
  refine ⟨fun j hj => ?_, fun j => ?_, by simpa [World.setCell] using h.lt⟩
  · rw [List.length_set] at hj
    rw [txAt_get (by rw [List.length_set]; exact hj), List.getElem_set]
    by_cases e : k = j
    · subst e
      rw [World.cell?_setCell_same _ _ _ (h.cell k hj), if_pos rfl]
    · rw [World.cell?_setCell_other _ _ _ _ (by intro hh; injection hh with _ h2; exact e h2), h.cell j hj, if_neg e, txAt_get hj]
  · rw [World.frozen?_setCell]
    exact h.free j
theorem RowT.gb {w w' : World} {b : Nat} {l : List ByteArray} {r : Option Nat} (h : RowT w b l) (k : w.grownBy w' r) (hne : r ≠ some b) : RowT w' b l := by
  have hb : w'.heap[b]? = w.heap[b]? := k.block b h.lt (fun e => hne e.symm)
  refine ⟨fun j hj => (World.cell?_of_block (w := w) hb).trans (h.cell j hj), fun j => ?_, Nat.lt_of_lt_of_le h.lt k.size⟩
  have hf := h.free j
  unfold World.frozen? at *
  rw [hb]; exact hf
/-- A slice of texts: nil, or a row. -/
def SlT (w : World) (v : Value) (l : List ByteArray) : Prop := (v = .slice none 0 0 ∧ l = []) ∨ ∃ b cap, v = .slice (some ⟨b, 0, none⟩) l.length cap ∧ RowT w b l
theorem SlT.later {w w' : World} {v : Value} {l : List ByteArray} (h : SlT w v l) (k : Below w.heap.size w w') : SlT w' v l := by
  rcases h with h | ⟨b, cap, e, hr⟩
  · exact .inl h
  · exact .inr ⟨b, cap, e, hr.keep k⟩
theorem SlT.form {w : World} {v : Value} {l : List ByteArray} (h : SlT w v l) : ∃ a c, v = .slice a l.length c := by
  rcases h with ⟨rfl, rfl⟩ | ⟨b, cap, rfl, _⟩
  · exact ⟨none, 0, rfl⟩
  · exact ⟨_, _, rfl⟩
theorem SlT.row {w : World} {a : Option Addr} {n c : Nat} {l : List ByteArray} (h : SlT w (.slice a n c) l) (hl : 0 < l.length) : ∃ b, a = some ⟨b, 0, none⟩ ∧ RowT w b l := by
  rcases h with ⟨_, rfl⟩ | ⟨b, cap, e, hr⟩
  · simp at hl
  · injection e with e1; exact ⟨b, e1, hr⟩
theorem SlT.rows {w : World} {a : Option Addr} {n c : Nat} {l : List ByteArray} (h : SlT w (.slice a n c) l) : RowS w a l := by
  rcases Nat.eq_zero_or_pos l.length with h0 | h0
  · exact .inl (List.eq_nil_of_length_eq_zero h0)
  · obtain ⟨b, rfl, hr⟩ := h.row h0
    exact .inr ⟨b, rfl, hr.cell⟩
theorem SlT.gb {w w' : World} {s : Value} {l : List ByteArray} {r : Option Nat} (h : SlT w s l) (k : w.grownBy w' r) (hne : ∀ g, s.ownBlock = some g → r ≠ some g) : SlT w' s l := by
  rcases h with h | ⟨b, cap, rfl, hr⟩
  · exact .inl h
  · exact .inr ⟨b, cap, rfl, hr.gb k (hne b rfl)⟩
theorem SlT.own_lt {w : World} {s : Value} {l : List ByteArray} (h : SlT w s l) {g : Nat} (hg : s.ownBlock = some g) : g < w.heap.size := by
  rcases h with ⟨rfl, _⟩ | ⟨b, cap, rfl, hr⟩
  · cases hg
  · injection hg with hg; subst hg; exact hr.lt
/-- What is handed back: a slice of texts, its memory new. -/
def AnsT (w0 w' : World) (s : Value) (L : List ByteArray) : Prop := SlT w' s L ∧ (∀ g, s.ownBlock = some g → w0.heap.size ≤ g) ∧ Below w0.heap.size w0 w'
theorem BufS.ans {w0 w : World} {v : Value} {l : List ByteArray} (h : BufS w0 w v l) : AnsT w0 w v l := by
  rcases h.own.2 with ⟨h1, h2⟩ | ⟨g, cap, cur, h1, hg, hh, _⟩
  · refine ⟨.inl ⟨h1, List.eq_nil_of_length_eq_zero h2⟩, fun g hg => ?_, h.below⟩
    rw [h1] at hg; cases hg
  · have hlt := (h.own.lt g (by rw [h1]; rfl)).2
    refine ⟨.inr ⟨g, cap, h1, ⟨fun j hj => ?_, fun j => ?_, hlt⟩⟩, fun g' hg' => ?_, h.below⟩
    · have := h.own.cells (g := g) (by rw [h1]; rfl) j (.string l[j]) (by simp [List.getElem?_eq_getElem hj])
      rw [Addr.add_lit, Nat.zero_add] at this
      rw [this, txAt_get hj]
    · have ho := h.own
      rw [h1] at ho
      exact ho.frozenAt j
    · rw [h1] at hg'
      injection hg' with hg'
      subst hg'; exact hg
/-- Its memory is none of an elder world's. -/
theorem BufS.base {w0 w1 w : World} {v : Value} {l : List ByteArray} (h : BufS w0 w v l) (hb : Below w1.heap.size w1 w0) : BufS w1 w v l := by
  refine ⟨hb.trans (h.below.mono hb.size), h.own.1, ?_⟩
  rcases h.own.2 with h2 | ⟨g, cap, cur, h1, hg, r⟩
  · exact .inl h2
  · exact .inr ⟨g, cap, cur, h1, Nat.le_trans hb.size hg, r⟩
theorem eqT_same {w : World} {l : List ByteArray} {va vb : Value} (ha : SlT w va l) (hb : SlT w vb l) (hl : l.length ≤ 1000000) :
    ∃ a b c d, va = .slice a l.length c ∧ vb = .slice b l.length d ∧ RowS w a l ∧ RowS w b l := by
  obtain ⟨a, c, rfl⟩ := ha.form
  obtain ⟨b, d, rfl⟩ := hb.form
  exact ⟨a, b, c, d, rfl, rfl, ha.rows, hb.rows⟩
end Go.Proofs.YtodandipfjamnaaDoor
namespace Go.Proofs.YtodandipfjamnaaDoor
set_option linter.unusedVariables false
set_option linter.unusedSimpArgs false
open Go.RowKit Go.Maps
/-- The value v is a slice of the call's own that holds the fields l; nothing that was there in w0 has turned. -/
structure BufF (w0 w : World) (v : Value) (l : List Fd) : Prop where
  below : Below w0.heap.size w0 w
  own : w.ownsRow w0.heap.size 37 2 v l.length (cellsF l)
theorem BufF.start (w : World) : BufF w w (.slice none 0 0) [] := ⟨Below.refl _ _, World.ownsRow_nil _ _ _ _⟩
theorem BufF.alloc {w0 w : World} {v : Value} {l : List Fd} (h : BufF w0 w v l) (o : Obj) : BufF w0 (w.alloc o) v l := ⟨h.below.alloc h.below.size o, h.own.alloc o⟩
theorem BufF.form {w0 w : World} {v : Value} {l : List Fd} (h : BufF w0 w v l) : ∃ (a : Option Addr) (c : Nat), v = .slice a l.length c := by
  rcases h.own.2 with ⟨h1, h2⟩ | ⟨g, cap, cur, h1, _⟩
  · exact ⟨none, 0, by rw [h1, h2]⟩
  · exact ⟨_, _, h1⟩
theorem BufF.later {w0 w w' : World} {v : Value} {l : List Fd} (h : BufF w0 w v l) (hb : Below w.heap.size w w') : BufF w0 w' v l := by
  refine ⟨h.below.trans (hb.mono h.below.size), ?_⟩
  exact h.own.kept (row := none) ⟨hb.os, hb.tape, hb.output, hb.size, fun k hk _ => hb.block k hk⟩ (by
    cases hv : v.ownBlock with
    | none => exact Or.inl rfl
    | some g => exact Or.inr (by intro e; cases e))
/-- Its memory is none of an elder world's. -/
theorem BufF.base {w0 w1 w : World} {v : Value} {l : List Fd} (h : BufF w0 w v l) (hb : Below w1.heap.size w1 w0) : BufF w1 w v l := by
  refine ⟨below_then hb h.below, h.own.1, ?_⟩
  rcases h.own.2 with h2 | ⟨g, cap, cur, h1, hg, r⟩
  · exact .inl h2
  · exact .inr ⟨g, cap, cur, h1, Nat.le_trans hb.size hg, r⟩
/-- What is handed back: a slice of fields, its memory new. -/
def AnsF (w0 w' : World) (s : Value) (L : List Fd) : Prop := SlF w' s L ∧ (∀ g, s.ownBlock = some g → w0.heap.size ≤ g) ∧ Below w0.heap.size w0 w'
theorem BufF.ans {w0 w : World} {v : Value} {l : List Fd} (h : BufF w0 w v l) : AnsF w0 w v l := by
  have ho := h.own
  rcases h.own.2 with ⟨h1, h2⟩ | ⟨g, cap, cur, h1, hg, hh, _⟩
  · refine ⟨.inl ⟨h1, List.eq_nil_of_length_eq_zero h2⟩, fun g hg => ?_, h.below⟩
    rw [h1] at hg; cases hg
  · have hlt := (h.own.lt g (by rw [h1]; rfl)).2
    rw [h1] at ho
    refine ⟨.inr ⟨g, cap, h1, ⟨fun j hj => ?_, fun j hj => ?_, fun j => ho.frozenAt j, hlt⟩⟩, fun g' hg' => ?_, h.below⟩
    · rw [ho.cellAt (j * 2) (by omega)]; exact (cellsF_at l j hj).1
    · rw [ho.cellAt (j * 2 + 1) (by omega)]; exact (cellsF_at l j hj).2
    · rw [h1] at hg'
      injection hg' with hg'
      subst hg'; exact hg
theorem wp_fapp {ops : Array Oper} {rest : List Oper} {o : Oper} {a : Act} {Q : Exit → Act → World → Prop} {w0 W : World} (hgd : o.guard = none) (s x : Operand)
    (ho : o.op = .call { callee := .builtin .append, args := #[s, x], argTypes := #[22, 22] }) (v : Value) (l : List Fd) (hs : a.eval s = v) (hbuf : BufF w0 W v l)
    (d t : ByteArray) (hx : a.eval x = .slice (some ⟨W.heap.size, 0, none⟩) 1 1) (hlen : l.length ≤ 1048576)
    (h : ∀ v' W', BufF w0 W' v' (l ++ [(d, t)]) → W.grownBy W' v.ownBlock → wpList Tryd.prog ops Q rest (a.put o.dst v') W') :
    wpList Tryd.prog ops Q (o :: rest) a (W.alloc (.cells #[.string d, .string t] 37)) := by
  obtain ⟨i0, hi, hz0, hz1, hz2⟩ := info_parts Tryd.infoF
  refine wpList_append_own _ hgd s x 22 ho w0.heap.size 37 i0 _ 2 32 Tryd.underlying22 hi hz0 hz1 hz2 rfl (by decide) v l.length (cellsF l) hs (hbuf.own.alloc _) ⟨W.heap.size, 0, none⟩ 1 1 (cellsF [(d, t)]) hx (by rw [cellsF_len]; rfl) ?_ (cellsF_one _) (by unfold maxLen; omega) (by omega) (by have := hbuf.below.size; simp; omega) ?_
  · intro j u hu
    have hj : j < 2 := by have := (List.getElem?_eq_some_iff.1 hu).1; rwa [cellsF_len] at this
    rw [Addr.add_lit, Nat.zero_add, (Blk.new W _ _).cell j, ← hu]
    rcases j with _ | _ | j
    · rfl
    · rfl
    · omega
  intro v' W' hown hgrow _
  refine h v' W' ⟨?_, ?_⟩ ((World.grownBy_alloc W _ _).trans hgrow)
  · refine (hbuf.alloc _).below.grown hgrow (by have := hbuf.below.size; simp; omega) ?_
    intro k hk
    exact (hbuf.own.lt k hk).1
  · rw [List.length_append, List.length_singleton, cellsF_app]
    exact hown
/-- A block that is a map is none of a row. -/
theorem own_ne_map {w : World} {base : Nat} {e : TypeId} {size : Nat} {v : Value} {n : Nat} {xs : List Value} (h : w.ownsRow base e size v n xs) {b : Nat} {es : Array MapEntry} {c : Nat} (hb : w.heap[b]? = some (.map es c)) : some b ≠ v.ownBlock := by
  intro hh
  rcases h.2 with ⟨h1, _⟩ | ⟨g, cap, cur, h1, _, hg, _⟩
  · rw [h1] at hh; cases hh
  · rw [h1] at hh
    injection hh with hh
    subst hh
    rw [hb] at hg
    cases hg
theorem below_gb {w w' : World} (h : Below w.heap.size w w') (r : Option Nat) : w.grownBy w' r := ⟨h.os, h.tape, h.output, h.size, fun k hk _ => h.block k hk⟩
/-- Is it the folded name of one of them? -/
def hasNm (l : List Fd) (s : List UInt8) : Bool := l.any fun x => s == (foldB x.1).data.toList
theorem hasNm_next (l : List Fd) (k : Nat) (h : k < l.length) (s : List UInt8) : hasNm (l.take (k + 1)) s = (hasNm (l.take k) s || s == (foldB (fdAt l k).1).data.toList) := by
  unfold hasNm
  rw [takeF_next l k h, List.any_append]; simp
theorem hasNm_mem {l : List Fd} {x : Fd} (h : x ∈ l) : hasNm l (foldB x.1).data.toList = true := by
  unfold hasNm
  rw [List.any_eq_true]
  exact ⟨x, h, by simp⟩
end Go.Proofs.YtodandipfjamnaaDoor
namespace Go.Proofs.YtodandipfjamnaaDoor
set_option linter.unusedVariables false
set_option linter.unusedSimpArgs false
open Go.RowKit Go.Maps
/-- Is the text among these? -/
def inNl (ns : List ByteArray) (s : ByteArray) : Bool := ns.any fun t => s.data.toList == t.data.toList
def elseL (l : List Fd) (ns : List ByteArray) : List Fd := l.filter fun x => !inNl ns (foldB x.1)
theorem elseL_one (l : List Fd) (n : ByteArray) : elseL l [foldB n] = l.filter fun x => !nameIs n x := by
  unfold elseL
  congr 1
  funext x
  simp [inNl, nameIs, eqB, ByteArray.toList_eq]
theorem withoutL_yes {l : List Fd} {n : ByteArray} (h : fieldsQ l = true) : withoutL l n = elseL l [foldB n] := by unfold withoutL; rw [if_pos h, elseL_one]
theorem withoutL_no {l : List Fd} {n : ByteArray} (h : fieldsQ l = false) : withoutL l n = [] := by unfold withoutL; rw [h]; rfl
theorem elseL_next (l : List Fd) (ns : List ByteArray) (k : Nat) (h : k < l.length) : elseL (l.take (k + 1)) ns = elseL (l.take k) ns ++ (if inNl ns (foldB (fdAt l k).1) = true then [] else [fdAt l k]) := by
  unfold elseL
  rw [keepF_next l _ k h]
  cases inNl ns (foldB (fdAt l k).1) <;> simp
theorem elseL_len (l : List Fd) (ns : List ByteArray) : (elseL l ns).length ≤ l.length := List.length_filter_le _ _
def leftP (l : List Fd) (ns : List ByteArray) (s : List UInt8) : Bool := hasNm l s && !(ns.any fun t => s == t.data.toList)
theorem leftP_next (l : List Fd) (ns : List ByteArray) (k : Nat) (h : k < ns.length) (s : List UInt8) : leftP l (ns.take (k + 1)) s = (leftP l (ns.take k) s && !(s == (txAt ns k).data.toList)) := by
  unfold leftP
  rw [List.take_succ_eq_append_getElem h, List.any_append, txAt_get h]
  simp only [List.any_cons, List.any_nil, Bool.or_false, Bool.not_or, Bool.and_assoc]
theorem leftP_at {l : List Fd} {ns : List ByteArray} {x : Fd} (h : x ∈ l) : leftP l ns (foldB x.1).data.toList = !inNl ns (foldB x.1) := by
  unfold leftP inNl
  rw [hasNm_mem h, Bool.true_and]
theorem fdAt_mem {l : List Fd} {k : Nat} (h : k < l.length) : fdAt l k ∈ l := by rw [fdAt_get h]; exact List.getElem_mem h
end Go.Proofs.YtodandipfjamnaaDoor
namespace Go.Proofs.YtodandipfjamnaaDoor
set_option linter.unusedVariables false
set_option linter.unusedSimpArgs false
open Go.RowKit Go.Maps
theorem keepN_next (l : List Fd) (n : ByteArray) (k : Nat) (h : k < l.length) : (l.take (k + 1)).filter (fun x => !nameIs n x) = (l.take k).filter (fun x => !nameIs n x) ++ (if nameIs n (fdAt l k) = true then [] else [fdAt l k]) := by
  rw [keepF_next l _ k h]
  cases nameIs n (fdAt l k) <;> simp
theorem withL_no1 {l : List Fd} {f : Fd} (h : fieldsQ l = false) : withL l f = [] := by unfold withL; rw [if_neg (by rw [h]; simp)]
theorem withL_no2 {l : List Fd} {f : Fd} (h : fieldQ f = false) : withL l f = [] := by unfold withL; rw [if_neg (by rw [h]; simp)]
theorem withL_yes {l : List Fd} {f : Fd} (h : fieldsQ l = true) (h2 : fieldQ f = true) : withL l f = if (withoutL l f.1).length < 20 then withoutL l f.1 ++ [f] else [] := by
  unfold withL withoutL
  rw [if_pos h]
  by_cases h3 : (l.filter (fun x => !nameIs f.1 x)).length < 20
  · rw [if_pos ⟨h, h2, h3⟩, if_pos h3]
  · rw [if_neg (fun hh => h3 hh.2.2), if_neg h3]
theorem withoutL_len (l : List Fd) (n : ByteArray) : (withoutL l n).length ≤ 20 := by
  unfold withoutL
  split
  · rename_i h
    exact Nat.le_trans (List.length_filter_le _ _) (fieldsQ_iff.1 h).1
  · simp
theorem withL_len (l : List Fd) (f : Fd) : (withL l f).length ≤ 20 := by
  unfold withL
  split
  · rename_i h
    rw [List.length_append, List.length_singleton]; omega
  · simp
/-- append(x, f) inside a region that draws: f lies in block N. -/
theorem step_fapp {ops : Array Oper} {o : Oper} {a : Act} {W : World} {K : Act → World → Prop} {Q : Exit → Act → World → Prop} {E : Prop} (hgd : o.guard = none) (s x : Operand)
    (ho : o.op = .call { callee := .builtin .append, args := #[s, x], argTypes := #[22, 22] }) (w0 : World) (v : Value) (l : List Fd) (hs : a.eval s = v) (hbuf : BufF w0 W v l) (N : Nat) (d t : ByteArray)
    (hx : a.eval x = .slice (some ⟨N, 0, none⟩) 1 1) (hN : Blk W N #[.string d, .string t] 37) (hlen : l.length ≤ 20)
    (k : ∀ v' W', BufF w0 W' v' (l ++ [(d, t)]) → K (a.put o.dst v') W') :
    if Region.wanted o (yielded ops a.tmps) = true then Oper.wp Tryd.prog o a W K Q else E := by
  obtain ⟨i0, hi, hz0, hz1, hz2⟩ := info_parts Tryd.infoF
  refine step_append_lies W hgd s x 22 ho w0.heap.size 37 i0 _ 2 32 Tryd.underlying22 hi hz0 hz1 hz2 rfl (by decide) v l.length (cellsF l) hs hbuf.own ⟨N, 0, none⟩ 1 1 (cellsF [(d, t)]) hx (by rw [cellsF_len]; rfl) ?_ (cellsF_one _) (by omega) (by unfold maxLen; omega) (by omega) hbuf.below.size _ rfl ?_
  · intro j u hu
    have hj : j < 2 := by have := (List.getElem?_eq_some_iff.1 hu).1; rwa [cellsF_len] at this
    rw [Addr.add_lit, Nat.zero_add, hN.cell j, ← hu]
    rcases j with _ | _ | j
    · rfl
    · rfl
    · omega
  intro g cap w' hown hgrow _ _
  refine k _ w' ⟨?_, ?_⟩
  · refine hbuf.below.grown hgrow hbuf.below.size ?_
    intro j hj
    exact (hbuf.own.lt j hj).1
  · rw [List.length_append, List.length_singleton, cellsF_app]
    exact hown
end Go.Proofs.YtodandipfjamnaaDoor
namespace Go.Proofs.YtodandipfjamnaaDoor
set_option linter.unusedVariables false
set_option linter.unusedSimpArgs false
open Go.RowKit
/-- A message as a value, its fields the slice v. -/
def mgV (g : Mg) (v : Value) : Value := .agg #[.string g.me, .string g.ta, .int .i64 g.st, .string g.re, .bool g.ba, v, .string g.bo]
def hdM : Except Int (Fl × List Fd × Nat) → Mg
  | .ok (h, fs, _) => ⟨h.1, h.2.1, h.2.2.1, h.2.2.2, false, fs, ⟨#[]⟩⟩
  | .error _ => mg0
def hdN : Except Int (Fl × List Fd × Nat) → Nat
  | .ok (_, _, m) => m
  | .error _ => 0
theorem hdM_len (answer : Bool) (s : ByteArray) : (hdM (hdX answer s)).fs.length ≤ 20 := by
  cases h : hdX answer s with
  | error c => exact Nat.zero_le _
  | ok x =>
    obtain ⟨⟨a, b, n, r⟩, fs, m⟩ := x
    exact (hdX_facts h).2.2.2.2.1
theorem results_cellTT {fn : Func} {p u x : Tmp} {ty : TypeId} (h : fn.results = #[.cell p ty, .tmp u, .tmp x]) (tmps : Array Value) (P : Program) (w : World) {b : Nat} {c : Array Value} {t : TypeId} {fs : Array Field} (hp : tmps.getD p undef = .pointer (some ⟨b, 0, none⟩)) (hB : Blk w b c t)
    (hu : P.underlying ty = some (.struct fs)) (hi : (P.info? ty).map (·.size) = some c.size) : (results fn tmps).run P w = .ok (.tuple #[.agg c, tmps.getD u undef, tmps.getD x undef]) w := by
  have hrun := run_loadVar_row (P := P) w b t ty c (0, 0) _ hB hu rfl hi
  have ha : (asAddr (tmps.getD p undef)).run P w = .ok ⟨b, 0, none⟩ w := by rw [hp]; rfl
  have he : (results fn tmps).run P w = ((asAddr (tmps.getD p undef)).run P w).andThen fun a w₁ => ((loadVar ty a).run P w₁).andThen fun v w₂ => .ok (.tuple #[v, tmps.getD u undef, tmps.getD x undef]) w₂ := by
    simp only [results, h]
    simp [Sem.run_bind, Result.andThen]
  rw [he, ha]
  show ((loadVar ty ⟨b, 0, none⟩).run P w).andThen _ = _
  rw [hrun]
  rfl
/-- The cells of a message. -/
def mgA (g : Mg) (v : Value) : Array Value := #[.string g.me, .string g.ta, .int .i64 g.st, .string g.re, .bool g.ba, v, .string g.bo]
theorem mgV_eq (g : Mg) (v : Value) : mgV g v = .agg (mgA g v) := rfl
set_option maxHeartbeats 1000000 in
theorem markMsg_any (me ta re bo : ByteArray) (st : Int) (ba : Bool) (fa : Option Addr) (fn fc : Nat) (fs : List Fd) (w : World) (hv : SlF w (.slice fa fn fc) fs) (hm : fs.length ≤ 1048576) :
    Calls Tryd.prog 7 #[.agg #[.string me, .string ta, .int .i64 st, .string re, .bool ba, .slice fa fn fc, .string bo], .int .i64 1] w fun e w' => e = .returned (.int .i64 (1 + 2 * (fs.length : Int))) ∧ SlF w' (.slice fa fn fc) (marksF fs.length) ∧ w.grownBy w' (Value.slice fa fn fc).ownBlock := by
  have hb := below_a1 w (.cells #[.string me, .string ta, .int .i64 st, .string re, .bool ba, .slice fa fn fc, .string bo] 24)
  have HV := hideB2 (hv.later hb)
  have HB := hideB2 (grown_then (grown_refl w (Value.slice fa fn fc).ownBlock) hb)
  have HM := hideB2 hm
  clear hv hb hm
  go_enter Tryd.func7, Tryd.ntmps7
  go_wp2_with (go_at_call 17; refine (markFieldS_any _ fs _ HV.out HM.out).mono ?_; rintro e w2 ⟨rfl, hs2, hg2⟩)
  go_ret
  exact ⟨rfl, hs2, World.grownBy.trans HB.out hg2⟩
set_option maxHeartbeats 1000000 in
theorem heldMsg_any (me ta re bo : ByteArray) (st : Int) (ba : Bool) (fa : Option Addr) (fn fc n : Nat) (w : World) (hv : SlF w (.slice fa fn fc) (marksF n)) (hm : n ≤ 1048576) :
    Calls Tryd.prog 8 #[.agg #[.string me, .string ta, .int .i64 st, .string re, .bool ba, .slice fa fn fc, .string bo], .int .i64 1] w fun e w' => e = .returned (.int .i64 (1 + 2 * (n : Int))) ∧ Below w.heap.size w w' := by
  have hb := below_a1 w (.cells #[.string me, .string ta, .int .i64 st, .string re, .bool ba, .slice fa fn fc, .string bo] 24)
  have HV := hideB2 (hv.later hb)
  have HB := hideB2 hb
  have HM := hideB2 hm
  have hneg : ¬ 1 + 2 * (n : Int) < 0 := by omega
  clear hv hb hm
  go_enter Tryd.func8, Tryd.ntmps8
  go_wp2_with (go_at_call 18; refine (heldFieldS_any _ n _ HV.out HM.out).mono ?_; rintro e w2 ⟨rfl, hb2⟩)
  go_ret
  exact ⟨rfl, below_then HB.out hb2⟩
end Go.Proofs.YtodandipfjamnaaDoor
namespace Go.Proofs
open Go.Shelf
def Tryd.lays221_ren : Go.Shelf.Ren := ⟨fun | 221 => 59 | 268 => 69 | 138 => 70 | 143 => 71 | 195 => 76 | 197 => 77 | 218 => 78 | 219 => 74 | 260 => 84 | 217 => 79 | 225 => 80 | 224 => 81 | 267 => 82 | 266 => 85 | 314 => 86 | n => n, fun | 9 => 9 | 3 => 3 | 31 => 67 | 4 => 4 | 0 => 0 | 105 => 80 | 21 => 21 | 5 => 5 | 46 => 84 | 119 => 88 | 139 => 91 | 138 => 90 | 146 => 86 | 51 => 85 | n => n, fun | 1 => 0 | 3 => 1 | 4 => 2 | n => n⟩
theorem Tryd.lays221 : Go.Proofs.Lays.n221 Tryd.prog Tryd.lays221_ren := {
  mixed := by kernel_rfl
  f138 := Tryd.func70.trans (congrArg some (by kernel_rfl))
  f143 := Tryd.func71.trans (congrArg some (by kernel_rfl))
  f195 := Tryd.func76.trans (congrArg some (by kernel_rfl))
  f197 := Tryd.func77.trans (congrArg some (by kernel_rfl))
  f217 := Tryd.func79.trans (congrArg some (by kernel_rfl))
  f218 := Tryd.func78.trans (congrArg some (by kernel_rfl))
  f219 := Tryd.func74.trans (congrArg some (by kernel_rfl))
  f221 := Tryd.func59.trans (congrArg some (by kernel_rfl))
  f224 := Tryd.func81.trans (congrArg some (by kernel_rfl))
  f225 := Tryd.func80.trans (congrArg some (by kernel_rfl))
  f260 := Tryd.func84.trans (congrArg some (by kernel_rfl))
  f266 := Tryd.func85.trans (congrArg some (by kernel_rfl))
  f267 := Tryd.func82.trans (congrArg some (by kernel_rfl))
  f268 := Tryd.func69.trans (congrArg some (by kernel_rfl))
  f314 := Tryd.func86.trans (congrArg some (by kernel_rfl))
  t0 := Tryd.underlying0
  a0 := Tryd.isAgg0
  z0 := Tryd.sizeOf0
  v0 := Tryd.zeroValue0
  t3 := Tryd.underlying3
  a3 := Tryd.isAgg3
  z3 := Tryd.sizeOf3
  v3 := Tryd.zeroValue3
  t4 := Tryd.underlying4
  a4 := Tryd.isAgg4
  z4 := Tryd.sizeOf4
  v4 := Tryd.zeroValue4
  t5 := Tryd.underlying5
  a5 := Tryd.isAgg5
  z5 := Tryd.sizeOf5
  v5 := Tryd.zeroValue5
  t9 := Tryd.underlying9
  a9 := Tryd.isAgg9
  z9 := Tryd.sizeOf9
  v9 := Tryd.zeroValue9
  t21 := Tryd.underlying21
  a21 := Tryd.isAgg21
  z21 := Tryd.sizeOf21
  v21 := Tryd.zeroValue21
  t31 := Tryd.underlying67
  a31 := Tryd.isAgg67
  z31 := Tryd.sizeOf67
  v31 := Tryd.zeroValue67
  t46 := Tryd.underlying84
  a46 := Tryd.isAgg84
  z46 := Tryd.sizeOf84
  v46 := Tryd.zeroValue84
  t51 := Tryd.underlying85
  a51 := Tryd.isAgg85
  z51 := Tryd.sizeOf85
  v51 := Tryd.zeroValue85
  t105 := Tryd.underlying80
  a105 := Tryd.isAgg80
  z105 := Tryd.sizeOf80
  v105 := Tryd.zeroValue80
  t119 := Tryd.underlying88
  a119 := Tryd.isAgg88
  z119 := Tryd.sizeOf88
  t138 := Tryd.underlying90
  a138 := Tryd.isAgg90
  z138 := Tryd.sizeOf90
  v138 := Tryd.zeroValue90
  t139 := Tryd.underlying91
  a139 := Tryd.isAgg91
  z139 := Tryd.sizeOf91
  v139 := Tryd.zeroValue91
  t146 := Tryd.underlying86
  a146 := Tryd.isAgg86
  z146 := Tryd.sizeOf86
  v146 := Tryd.zeroValue86
  g1 := by kernel_rfl
  g3 := by kernel_rfl
  g4 := by kernel_rfl }
end Go.Proofs
namespace Go.Proofs.YtodandipfjamnaaDoor
set_option linter.unusedVariables false
set_option linter.unusedSimpArgs false
open Go.RowKit
def blB : ByteArray := ⟨#[32]⟩
theorem indexB_bl (s : ByteArray) : Lib.indexB s ⟨#[32]⟩ = Lib.indexByte s.data.toList 32 := by
  show Lib.index s.data.toList [32] = _
  exact Lib.index_one _ _
set_option maxRecDepth 100000 in
set_option maxHeartbeats 1000000 in
theorem Index1B_any (s : ByteArray) (w : World) :
    Calls Tryd.prog 74 #[.string s, .string ⟨#[32]⟩] w fun e w' => e = .returned (.int .i64 (Lib.indexByte s.data.toList 32)) ∧ w' = w := by
  cases h : eqB ⟨#[32]⟩ s
  · have h1 : (([32] : List UInt8) == s.toList) = false := by
      rw [show ([32] : List UInt8) = (⟨#[32]⟩ : ByteArray).toList by rw [ByteArray.toList_eq]]
      exact h
    have HI := hideB2 (fun W => IndexByte_any s 32 W)
    clear h
    go_enter Tryd.func74, Tryd.ntmps74
    go_wp2_with (go_at_call 79; refine (HI.out _).mono ?_; rintro e w' ⟨rfl, rfl⟩)
    go_ret
    exact ⟨rfl, rfl⟩
  · have h1 : (([32] : List UInt8) == s.toList) = true := by
      rw [show ([32] : List UInt8) = (⟨#[32]⟩ : ByteArray).toList by rw [ByteArray.toList_eq]]
      exact h
    have HE := hideB2 (show Lib.indexByte s.data.toList 32 = 0 by rw [← eqB_iff.1 h]; simp [Lib.indexByte])
    clear h
    go_enter Tryd.func74, Tryd.ntmps74
    go_wp2
    go_ret
    exact ⟨ret_int HE.out, rfl⟩
set_option maxRecDepth 100000 in
set_option maxHeartbeats 1000000 in
theorem IndexBl_any (s : ByteArray) (w : World) :
    Calls Tryd.prog 71 #[.string s, .string ⟨#[32]⟩] w fun e w' => e = .returned (.int .i64 (Lib.indexB s ⟨#[32]⟩)) ∧ w' = w := by
  have HI := hideB2 (fun W => Index1B_any s W)
  rw [← indexB_bl] at HI
  generalize Lib.indexB s ⟨#[32]⟩ = r at *
  go_enter Tryd.func71, Tryd.ntmps71
  go_wp2_with (go_at_call 74; refine (HI.out _).mono ?_; rintro e w' ⟨rfl, rfl⟩)
  go_ret
  exact ⟨rfl, rfl⟩
theorem CountBl_any (s : ByteArray) (w : World) :
    Calls Tryd.prog 70 #[.string s, .string ⟨#[32]⟩] w fun e w' => e = .returned (.int .i64 (Lib.countB s ⟨#[32]⟩)) ∧ w' = w := by
  refine (Any.strings_Count_one { Tryd.lays221 with } s 32 w).mono fun e w' ⟨he, hw⟩ => ⟨?_, hw⟩
  rw [he]
  show _ = Ending.returned (Value.int .i64 ((Lib.count s.data.toList [32] : Nat) : Int))
  rw [Lib.count_one]
  rfl
theorem genSplit_bl (s : ByteArray) (n : Int) (N : Nat) (w : World) (hs : s.size < 4294967281) (hn0 : n ≠ 0) (hn63 : n ≤ 9223372036854775807) (hN : (N : Int) = min (if n < 0 then (Lib.countB s ⟨#[32]⟩ : Int) + 1 else n) ((s.size : Int) + 1)) :
    Calls Tryd.prog 59 #[.string s, .string ⟨#[32]⟩, .int .i64 0, .int .i64 n] w fun e w' =>
      e = .returned (.slice (some ⟨w.heap.size, 0, none⟩) (Lib.splitB ⟨#[32]⟩ 0 (N - 1) s).length N) ∧ w' = w.alloc (.cells (Lib.cellsOf (Lib.splitB ⟨#[32]⟩ 0 (N - 1) s) N) 9) :=
  Any.strings_genSplit_core Tryd.lays221 (by kernel_rfl) s ⟨#[32]⟩ 0 n N w hs (Nat.le_refl _) (Nat.zero_le _) (fun x c _ => IndexBl_any x _) (CountBl_any s w) hn0 hn63 hN
set_option maxHeartbeats 1000000 in
theorem SplitBl_any (s : ByteArray) (w : World) (hs : s.size < 4294967281) :
    Calls Tryd.prog 52 #[.string s, .string ⟨#[32]⟩] w fun e w' =>
      e = .returned (.slice (some ⟨w.heap.size, 0, none⟩) (Lib.countB s ⟨#[32]⟩ + 1) (Lib.countB s ⟨#[32]⟩ + 1)) ∧ w' = w.alloc (.cells ((Lib.splitB ⟨#[32]⟩ 0 (Lib.countB s ⟨#[32]⟩) s).map Value.string).toArray 9) := by
  have h1 : 1 ≤ (⟨#[32]⟩ : ByteArray).size := Nat.le_refl _
  have hle := Lib.countB_le ⟨#[32]⟩ h1 s.size s (Nat.le_refl _)
  have hlen := Lib.splitB_all ⟨#[32]⟩ h1 0 _ s rfl
  have c := genSplit_bl s (-1) (Lib.countB s ⟨#[32]⟩ + 1) w hs (by decide) (by decide) (by rw [if_pos (by decide)]; omega)
  rw [Nat.add_sub_cancel, hlen] at c
  have e2 : Lib.cellsOf (Lib.splitB ⟨#[32]⟩ 0 (Lib.countB s ⟨#[32]⟩) s) (Lib.countB s ⟨#[32]⟩ + 1) = ((Lib.splitB ⟨#[32]⟩ 0 (Lib.countB s ⟨#[32]⟩) s).map Value.string).toArray := by rw [← hlen]; exact Lib.cellsOf_full _
  rw [e2] at c
  have HC := hideB2 c
  clear c e2 hlen
  generalize ((Lib.splitB ⟨#[32]⟩ 0 (Lib.countB s ⟨#[32]⟩) s).map Value.string).toArray = arr at *
  generalize Lib.countB s ⟨#[32]⟩ = cn at *
  go_enter Tryd.func52, Tryd.ntmps52
  go_wp2_with (go_at_call 59; refine HC.out.mono ?_; rintro e w' ⟨rfl, hw⟩; rw [hw])
  go_ret
  exact ⟨rfl, rfl⟩
set_option maxHeartbeats 1000000 in
theorem SplitNBl_any (s : ByteArray) (w : World) (hs : s.size < 4294967281) :
    Calls Tryd.prog 49 #[.string s, .string ⟨#[32]⟩, .int .i64 3] w fun e w' =>
      e = .returned (.slice (some ⟨w.heap.size, 0, none⟩) (Lib.splitB ⟨#[32]⟩ 0 (min 3 (s.size + 1) - 1) s).length (min 3 (s.size + 1))) ∧ w' = w.alloc (.cells (Lib.cellsOf (Lib.splitB ⟨#[32]⟩ 0 (min 3 (s.size + 1) - 1) s) (min 3 (s.size + 1))) 9) := by
  have c := genSplit_bl s 3 (min 3 (s.size + 1)) w hs (by decide) (by decide) (by rw [if_neg (by decide)]; omega)
  have HC := hideB2 c
  clear c
  generalize Lib.cellsOf (Lib.splitB ⟨#[32]⟩ 0 (min 3 (s.size + 1) - 1) s) (min 3 (s.size + 1)) = arr at *
  generalize (Lib.splitB ⟨#[32]⟩ 0 (min 3 (s.size + 1) - 1) s).length = ln at *
  generalize min 3 (s.size + 1) = mn at *
  go_enter Tryd.func49, Tryd.ntmps49
  go_wp2_with (go_at_call 59; refine HC.out.mono ?_; rintro e w' ⟨rfl, hw⟩; rw [hw])
  go_ret
  exact ⟨rfl, rfl⟩
end Go.Proofs.YtodandipfjamnaaDoor
namespace Go.Proofs.YtodandipfjamnaaDoor
set_option linter.unusedVariables false
set_option linter.unusedSimpArgs false
open Go.RowKit

theorem keep2 {W w1 : World} (hb : Below W.heap.size W w1) {b : Nat} {x y : Value} (h0 : W.cell? ⟨b, 0, none⟩ = some x) (h1 : W.cell? ⟨b, 1, none⟩ = some y) :
    w1.cell? ⟨b, 0, none⟩ = some x ∧ w1.cell? ⟨b, 1, none⟩ = some y ∧ b < w1.heap.size :=
  ⟨cell_later hb h0, cell_later hb h1, Nat.lt_of_lt_of_le (World.block_lt_of_cell? _ _ h0) hb.size⟩
set_option maxHeartbeats 400000 in
theorem inside_any (s : ByteArray) (n : Int) (w : World) :
    Calls Tryd.prog 43 #[.agg #[.string s, .int .i64 n]] w fun e w' => e = .returned (.bool (curOk s n)) ∧ w' = w.alloc (.cells #[.string s, .int .i64 n] 31) := by
  by_cases h : 0 ≤ n
  · rw [curOk_pos h]
    go_enter Tryd.func43, Tryd.ntmps43
    go_wp2
    go_ret
    exact ⟨rfl, rfl⟩
  · rw [curOk_neg h]
    have h' : decide (0 ≤ n) = false := by simpa using h
    go_enter Tryd.func43, Tryd.ntmps43
    go_wp2
    go_ret
    exact ⟨rfl, rfl⟩
set_option maxHeartbeats 400000 in
theorem sCurOk_any (s : ByteArray) (n : Int) (w : World) :
    Calls Tryd.prog 19 #[.agg #[.string s, .int .i64 n]] w fun e w' => e = .returned (.bool (curOk s n)) ∧ w' = w.alloc (.cells #[.string s, .int .i64 n] 31) := by
  by_cases h : 0 ≤ n
  · rw [curOk_pos h]
    go_enter Tryd.func19, Tryd.ntmps19
    go_wp2
    go_ret
    exact ⟨rfl, rfl⟩
  · rw [curOk_neg h]
    have h' : decide (0 ≤ n) = false := by simpa using h
    go_enter Tryd.func19, Tryd.ntmps19
    go_wp2
    go_ret
    exact ⟨rfl, rfl⟩
end Go.Proofs.YtodandipfjamnaaDoor
namespace Go.Proofs.YtodandipfjamnaaDoor
set_option linter.unusedVariables false
set_option linter.unusedSimpArgs false
open Go.RowKit

set_option maxHeartbeats 400000 in
theorem left_any (s : ByteArray) (k : Nat) (w : World) (hs : s.size ≤ maxLen) (hk : k ≤ s.size) :
    Calls Tryd.prog 46 #[.agg #[.string s, .int .i64 (k : Int)]] w fun e w' => e = .returned (.int .i64 ((s.size : Int) - k)) ∧ w' = w.alloc (.cells #[.string s, .int .i64 (k : Int)] 31) := by
  unfold maxLen at hs
  go_enter Tryd.func46, Tryd.ntmps46
  go_wp2
  go_ret
  exact ⟨rfl, rfl⟩
set_option maxHeartbeats 400000 in
theorem next_any (s : ByteArray) (k : Nat) (w : World) (hs : s.size ≤ maxLen) (hk : k < s.size) :
    Calls Tryd.prog 47 #[.agg #[.string s, .int .i64 (k : Int)]] w fun e w' => e = .returned (.int .u8 (s[k].toNat : Int)) ∧ w' = w.alloc (.cells #[.string s, .int .i64 (k : Int)] 31) := by
  unfold maxLen at hs
  go_enter Tryd.func47, Tryd.ntmps47
  go_wp2
  go_ret
  exact ⟨rfl, rfl⟩
set_option maxHeartbeats 400000 in
theorem part_any (s : ByteArray) (k m : Nat) (w : World) (hs : s.size ≤ maxLen) (hk : k + m ≤ s.size) :
    Calls Tryd.prog 48 #[.agg #[.string s, .int .i64 (k : Int)], .int .i64 (m : Int)] w fun e w' => e = .returned (.string (s.extract k (k + m))) ∧ w' = w.alloc (.cells #[.string s, .int .i64 (k : Int)] 31) := by
  unfold maxLen at hs
  have hk2 : k ≤ k + m := by omega
  go_enter Tryd.func48, Tryd.ntmps48
  go_wp2
  go_ret
  exact ⟨rfl, rfl⟩
set_option maxHeartbeats 400000 in
theorem behind_any (s : ByteArray) (k m : Nat) (w : World) (hs : s.size ≤ maxLen) (hk : k + m ≤ s.size) :
    Calls Tryd.prog 45 #[.agg #[.string s, .int .i64 (k : Int)], .int .i64 (m : Int)] w fun e w' => e = .returned (.agg #[.string s, .int .i64 ((k : Int) + m)]) ∧ Below w.heap.size w w' := by
  unfold maxLen at hs
  go_enter Tryd.func45, Tryd.ntmps45
  go_wp2
  exact bodyPost_ret (v := .agg #[.string s, .int .i64 ((k : Int) + m)]) (by simp [results, Tryd.results45, go_sem]) rfl ⟨rfl, (by repeat (first | exact Below.refl _ _ | refine Below.drew ?_ | refine Below.alloc ?_ (by simp <;> omega) _ | refine Below.setCell ?_ (by simp <;> omega) _))⟩
set_option maxHeartbeats 1000000 in
theorem beforeLineEnd_any (s : ByteArray) (k : Nat) (w : World) (hs : s.size ≤ maxLen) (hk : k ≤ s.size) :
    Calls Tryd.prog 44 #[.agg #[.string s, .int .i64 (k : Int)]] w fun e w' => e = .returned (.int .i64 (eolLen s k : Nat)) ∧ Below w.heap.size w w' := by
  have hs' := hs
  unfold maxLen at hs'
  go_enter Tryd.func44, Tryd.ntmps44
  go_wp2_with fail
  go_loopw [3] (fun i wr => ∃ m : Nat, k + m ≤ s.size ∧ i = .int .i64 (m : Int) ∧ wr.cell? ⟨w.heap.size, 0, none⟩ = some (.string s) ∧ wr.cell? ⟨w.heap.size, 1, none⟩ = some (.int .i64 (k : Int)) ∧ w.heap.size < wr.heap.size ∧ Below w.heap.size w wr ∧ ∀ j, j < m → eol8 (at8 s (k + j)) = false) (fun i _ => s.size - (intOf i).toNat)
  case atStart => exact ⟨0, by omega, rfl, by simp, by simp, by simp, (Below.refl _ _).alloc (Nat.le_refl _) _, fun j hj => by omega⟩
  case round =>
    obtain ⟨m, hkm, rfl, q0, q1, qz, hbel, hall⟩ := hrel
    have Hall : Hid (∀ j, j < m → eol8 (at8 s (k + j)) = false) := hall
    clear hall
    have hbel2 : Below w.heap.size w (wr.alloc (.cells #[.string s, .int .i64 (k : Int)] 31)) := hbel.alloc hbel.size _
    by_cases hlt : k + m < s.size
    · have hd : (m : Int) < (s.size : Int) - (k : Int) := by omega
      by_cases h13 : ((at8 s (k + m)).toNat : Int) = 13
      · have g13 : ((s[k + m].toNat : Int) != 13) = false := by rw [at8_eq s (k + m) hlt]; simpa using h13
        have hfin : Hid (eolLen s k = m) := eolLen_of s k m hkm Hall.out (Or.inr (eolP_iff.2 (Or.inl h13)))
        clear h13
        go_wp2_with (go_at_call 46; refine (left_any s k _ hs hk).mono ?_; rintro e w' ⟨rfl, rfl⟩)
        go_ret
        exact ⟨ret_int (by rw [hfin.out]), hbel2⟩
      · have g13 : ((s[k + m].toNat : Int) != 13) = true := by rw [at8_eq s (k + m) hlt]; simpa using h13
        by_cases h10 : ((at8 s (k + m)).toNat : Int) = 10
        · have g10 : ((s[k + m].toNat : Int) != 10) = false := by rw [at8_eq s (k + m) hlt]; simpa using h10
          have hfin : Hid (eolLen s k = m) := eolLen_of s k m hkm Hall.out (Or.inr (eolP_iff.2 (Or.inr h10)))
          clear h13 h10
          go_wp2_with (go_at_call 46; refine (left_any s k _ hs hk).mono ?_; rintro e w' ⟨rfl, rfl⟩)
          go_ret
          exact ⟨ret_int (by rw [hfin.out]), hbel2⟩
        · have g10 : ((s[k + m].toNat : Int) != 10) = true := by rw [at8_eq s (k + m) hlt]; simpa using h10
          have hnew : Hid (eol8 (at8 s (k + m)) = false) := eolP_no.2 ⟨h13, h10⟩
          have r0 : (wr.alloc (.cells #[.string s, .int .i64 (k : Int)] 31)).cell? ⟨w.heap.size, 0, none⟩ = some (.string s) := cell_later ((Below.refl _ wr).alloc (Nat.le_refl _) _) q0
          have r1 : (wr.alloc (.cells #[.string s, .int .i64 (k : Int)] 31)).cell? ⟨w.heap.size, 1, none⟩ = some (.int .i64 (k : Int)) := cell_later ((Below.refl _ wr).alloc (Nat.le_refl _) _) q1
          have R0 : Hid _ := r0
          have R1 : Hid _ := r1
          clear h13 h10 r0 r1
          go_wp2_with (go_at_call 46; refine (left_any s k _ hs hk).mono ?_; rintro e w' ⟨rfl, rfl⟩)
          go_roundw
          case rel => exact ⟨m + 1, by omega, by go_num, R0.out, R1.out, by simp; omega, hbel2, all_succ Hall.out hnew.out⟩
          case measure => simp [intOf]; omega
    · have hd : decide ((m : Int) < (s.size : Int) - (k : Int)) = false := by simp; omega
      have hfin : Hid (eolLen s k = m) := eolLen_of s k m hkm Hall.out (Or.inl (by omega))
      go_wp2_with (go_at_call 46; refine (left_any s k _ hs hk).mono ?_; rintro e w' ⟨rfl, rfl⟩)
      go_ret
      exact ⟨ret_int (by rw [hfin.out]), hbel2⟩
end Go.Proofs.YtodandipfjamnaaDoor
namespace Go.Proofs.YtodandipfjamnaaDoor
set_option linter.unusedVariables false
set_option linter.unusedSimpArgs false
open Go.RowKit

theorem tlE_of {s : ByteArray} {k m : Nat} (h : eolLen s k = m) : tlE s k = k + m := by unfold tlE; rw [h]

set_option maxHeartbeats 1000000 in
theorem sTakeLine_bad (s : ByteArray) (n : Int) (w : World) (hc : curOk s n = false) :
    Calls Tryd.prog 9 #[.agg #[.string s, .int .i64 n]] w fun e w' => e = .returned (.tuple #[.string ⟨#[]⟩, curZ, .int .i64 2]) ∧ Below w.heap.size w w' := by
  go_enter Tryd.func9, Tryd.ntmps9
  go_wp2_with (go_at_call 19; refine (sCurOk_any s _ _).mono ?_; rintro e w' ⟨rfl, rfl⟩)
  refine bodyPost_ret (v := .tuple #[.string ⟨#[]⟩, curZ, .int .i64 2]) (by simp [results, Tryd.results9, go_sem, curZ]) rfl ⟨rfl, ?_⟩
  exact (by repeat (first | exact Below.refl _ _ | refine Below.drew ?_ | refine Below.alloc ?_ (by simp <;> omega) _ | refine Below.setCell ?_ (by simp <;> omega) _))
set_option maxHeartbeats 2000000 in
theorem sTakeLine_ok (s : ByteArray) (k : Nat) (w : World) (hs : s.size ≤ maxLen) (hk : k ≤ s.size) :
    Calls Tryd.prog 9 #[.agg #[.string s, .int .i64 (k : Int)]] w fun e w' => e = .returned (tlV s k) ∧ Below w.heap.size w w' := by
  have hs' := hs
  unfold maxLen at hs'
  have hc : curOk s (k : Int) = true := curOk_iff.2 ⟨by omega, by omega⟩
  go_enter Tryd.func9, Tryd.ntmps9
  go_wp2_with (go_at_call 19; refine (sCurOk_any s _ _).mono ?_; rintro e w' ⟨rfl, rfl⟩)
  clear hc
  go_loop [5] (fun i => ∃ m : Nat, k + m ≤ s.size ∧ i = .int .i64 ((k : Int) + (m : Int)) ∧ ∀ j, j < m → eol8 (at8 s (k + j)) = false) (fun i => s.size - (intOf i).toNat)
  case atStart => exact ⟨0, by omega, by simp, fun j hj => by omega⟩
  case round =>
    obtain ⟨m, hkm, rfl, hall⟩ := hrel
    have Hall : Hid (∀ j, j < m → eol8 (at8 s (k + j)) = false) := hall
    clear hall
    by_cases hlt : k + m < s.size
    · have hltI : (k : Int) + (m : Int) < (s.size : Int) := by omega
      by_cases h10 : ((at8 s (k + m)).toNat : Int) = 10
      · have g10 : ((s[k + m].toNat : Int) == 10) = true := by rw [at8_eq s (k + m) hlt]; simpa using h10
        have hE := tlE_of (eolLen_of s k m hkm Hall.out (Or.inr (eolP_iff.2 (Or.inr h10))))
        have hfin : Hid (tlV s k = .tuple #[.string ⟨#[]⟩, curZ, .int .i64 2]) := tlV_bad (tlC_10 (by rw [hE]; exact hlt) (by rw [hE]; omega))
        clear h10 hE
        go_wp2
        refine bodyPost_ret (v := .tuple #[.string ⟨#[]⟩, curZ, .int .i64 2]) (by simp [results, Tryd.results9, go_sem, curZ]) rfl ⟨by rw [hfin.out], ?_⟩
        exact (by repeat (first | exact Below.refl _ _ | refine Below.drew ?_ | refine Below.alloc ?_ (by simp <;> omega) _ | refine Below.setCell ?_ (by simp <;> omega) _))
      · have g10 : ((s[k + m].toNat : Int) == 10) = false := by rw [at8_eq s (k + m) hlt]; simpa using h10
        by_cases h13 : ((at8 s (k + m)).toNat : Int) = 13
        · have g13 : ((s[k + m].toNat : Int) == 13) = true := by rw [at8_eq s (k + m) hlt]; simpa using h13
          have hE := tlE_of (eolLen_of s k m hkm Hall.out (Or.inr (eolP_iff.2 (Or.inl h13))))
          by_cases hend : k + m + 1 = s.size
          · have hge : s.size ≤ k + m + 1 := by omega
            have hfin : Hid (tlV s k = .tuple #[.string ⟨#[]⟩, curZ, .int .i64 1]) := tlV_short (tlC_13end (by rw [hE]; exact hend) (by rw [hE]; omega))
            clear h10 h13 hE hend
            go_wp2
            refine bodyPost_ret (v := .tuple #[.string ⟨#[]⟩, curZ, .int .i64 1]) (by simp [results, Tryd.results9, go_sem, curZ]) rfl ⟨by rw [hfin.out], ?_⟩
            exact (by repeat (first | exact Below.refl _ _ | refine Below.drew ?_ | refine Below.alloc ?_ (by simp <;> omega) _ | refine Below.setCell ?_ (by simp <;> omega) _))
          · have hL2 : k + m + 1 < s.size := by omega
            by_cases hn : ((at8 s (k + m + 1)).toNat : Int) = 10
            · have gn : ((s[k + m + 1].toNat : Int) != 10) = false := by rw [at8_eq s (k + m + 1) hL2]; simpa using hn
              have hfin : Hid (tlV s k = .tuple #[.string (s.extract k (k + m)), .agg #[.string s, .int .i64 ((k : Int) + (m : Int) + 2)], .int .i64 0]) := by
                have := tlV_ok (tlC_ok (s := s) (k := k) (by rw [hE]; exact hL2) (by rw [hE]; omega) (by rw [hE]; omega))
                rw [hE] at this
                rw [show (k : Int) + (m : Int) = ((k + m : Nat) : Int) from by omega]
                exact this
              have e1 : IntKind.i64.wrap ((k : Int) + (m : Int) + 2) = (k : Int) + (m : Int) + 2 := by rw [IntKind.wrap_i64]; omega
              have hkm2 : k ≤ k + m := by omega
              clear h10 h13 hE hend hn
              go_wp2
              go_region
              go_wp2
              refine bodyPost_ret (v := .tuple #[.string (s.extract k (k + m)), .agg #[.string s, .int .i64 ((k : Int) + (m : Int) + 2)], .int .i64 0]) (by simp [results, Tryd.results9, go_sem]) rfl ⟨by rw [hfin.out], ?_⟩
              exact (by repeat (first | exact Below.refl _ _ | refine Below.drew ?_ | refine Below.alloc ?_ (by simp <;> omega) _ | refine Below.setCell ?_ (by simp <;> omega) _))
            · have gn : ((s[k + m + 1].toNat : Int) != 10) = true := by rw [at8_eq s (k + m + 1) hL2]; simpa using hn
              have hfin : Hid (tlV s k = .tuple #[.string ⟨#[]⟩, curZ, .int .i64 2]) := tlV_bad (tlC_no (by rw [hE]; exact hL2) (by rw [hE]; omega) (by rw [hE]; omega))
              clear h10 h13 hE hend hn
              go_wp2
              refine bodyPost_ret (v := .tuple #[.string ⟨#[]⟩, curZ, .int .i64 2]) (by simp [results, Tryd.results9, go_sem, curZ]) rfl ⟨by rw [hfin.out], ?_⟩
              exact (by repeat (first | exact Below.refl _ _ | refine Below.drew ?_ | refine Below.alloc ?_ (by simp <;> omega) _ | refine Below.setCell ?_ (by simp <;> omega) _))
        · have g13 : ((s[k + m].toNat : Int) == 13) = false := by rw [at8_eq s (k + m) hlt]; simpa using h13
          have hnew : Hid (eol8 (at8 s (k + m)) = false) := eolP_no.2 ⟨h13, h10⟩
          clear h10 h13
          go_wp2
          go_round
          case rel => exact ⟨m + 1, by omega, by go_num, all_succ Hall.out hnew.out⟩
          case measure => simp [intOf]; omega
    · have hge : (s.size : Int) ≤ (k : Int) + (m : Int) := by omega
      have hE := tlE_of (eolLen_of s k m hkm Hall.out (Or.inl (by omega)))
      have hfin : Hid (tlV s k = .tuple #[.string ⟨#[]⟩, curZ, .int .i64 1]) := tlV_short0 (by rw [hE]; omega)
      clear hE
      go_wp2
      refine bodyPost_ret (v := .tuple #[.string ⟨#[]⟩, curZ, .int .i64 1]) (by simp [results, Tryd.results9, go_sem, curZ]) rfl ⟨by rw [hfin.out], ?_⟩
      exact (by repeat (first | exact Below.refl _ _ | refine Below.drew ?_ | refine Below.alloc ?_ (by simp <;> omega) _ | refine Below.setCell ?_ (by simp <;> omega) _))
end Go.Proofs.YtodandipfjamnaaDoor
namespace Go.Proofs.YtodandipfjamnaaDoor
set_option linter.unusedVariables false
set_option linter.unusedSimpArgs false
open Go.RowKit

/-- What is kept of a block of two cells: what they hold, that they may be written, that the block is there. -/
structure Two (w : World) (b : Nat) (x y : Value) : Prop where
  c0 : w.cell? ⟨b, 0, none⟩ = some x
  c1 : w.cell? ⟨b, 1, none⟩ = some y
  f0 : w.frozen? ⟨b, 0, none⟩ = false
  f1 : w.frozen? ⟨b, 1, none⟩ = false
  lt : b < w.heap.size
theorem Two.later {W w1 : World} (hb : Below W.heap.size W w1) {b : Nat} {x y : Value} (h : Two W b x y) : Two w1 b x y :=
  ⟨cell_later hb h.c0, cell_later hb h.c1, (hb.frozen (p := ⟨b, 0, none⟩) h.lt).trans h.f0, (hb.frozen (p := ⟨b, 1, none⟩) h.lt).trans h.f1, Nat.lt_of_lt_of_le h.lt hb.size⟩
theorem Two.alloc {W : World} {b : Nat} {x y : Value} (h : Two W b x y) (o : Obj) : Two (W.alloc o) b x y := h.later ((Below.refl _ W).alloc (Nat.le_refl _) o)
theorem Two.drew {W : World} {b : Nat} {x y : Value} (h : Two W b x y) : Two W.drew b x y := ⟨h.c0, h.c1, h.f0, h.f1, h.lt⟩
theorem Two.new (W : World) (x y : Value) (t : TypeId) : Two (W.alloc (.cells #[x, y] t)) W.heap.size x y :=
  ⟨by simp, by simp, by simp, by simp, by simp⟩

theorem left_at (s : ByteArray) (n : Int) (k : Nat) (w : World) (hn : n = (k : Int)) (hs : s.size ≤ maxLen) (hk : k ≤ s.size) :
    Calls Tryd.prog 46 #[.agg #[.string s, .int .i64 n]] w fun e w' => e = .returned (.int .i64 ((s.size : Int) - n)) ∧ w' = w.alloc (.cells #[.string s, .int .i64 n] 31) := by
  subst hn; exact left_any s k w hs hk
theorem next_at (s : ByteArray) (n : Int) (k : Nat) (w : World) (hn : n = (k : Int)) (hs : s.size ≤ maxLen) (hk : k < s.size) :
    Calls Tryd.prog 47 #[.agg #[.string s, .int .i64 n]] w fun e w' => e = .returned (.int .u8 ((at8 s k).toNat : Int)) ∧ w' = w.alloc (.cells #[.string s, .int .i64 n] 31) := by
  subst hn
  have := next_any s k w hs hk
  rw [at8_eq s k hk] at this
  exact this
theorem behind_at (s : ByteArray) (n m : Int) (k j : Nat) (w : World) (hn : n = (k : Int)) (hm : m = (j : Int)) (hs : s.size ≤ maxLen) (hk : k + j ≤ s.size) :
    Calls Tryd.prog 45 #[.agg #[.string s, .int .i64 n], .int .i64 m] w fun e w' => e = .returned (.agg #[.string s, .int .i64 (n + m)]) ∧ Below w.heap.size w w' := by
  subst hn hm; exact behind_any s k j w hs hk
set_option maxHeartbeats 1000000 in
theorem TakeLine_bad (s : ByteArray) (n : Int) (w : World) (hc : curOk s n = false) :
    Calls Tryd.prog 38 #[.agg #[.string s, .int .i64 n]] w fun e w' => e = .returned (.tuple #[.string ⟨#[]⟩, curZ, .int .i64 2]) ∧ Below w.heap.size w w' := by
  go_enter Tryd.func38, Tryd.ntmps38
  go_wp2_with (go_at_call 43; refine (inside_any s _ _).mono ?_; rintro e w' ⟨rfl, rfl⟩)
  refine bodyPost_ret (v := .tuple #[.string ⟨#[]⟩, curZ, .int .i64 2]) (by simp [results, Tryd.results38, go_sem, curZ]) rfl ⟨rfl, ?_⟩
  exact (by repeat (first | exact Below.refl _ _ | refine Below.drew ?_ | refine Below.alloc ?_ (by simp <;> omega) _ | refine Below.setCell ?_ (by simp <;> omega) _))
set_option maxHeartbeats 2000000 in
theorem TakeLine_ok (s : ByteArray) (k : Nat) (w : World) (hs : s.size ≤ maxLen) (hk : k ≤ s.size) :
    Calls Tryd.prog 38 #[.agg #[.string s, .int .i64 (k : Int)]] w fun e w' => e = .returned (tlV s k) ∧ Below w.heap.size w w' := by
  have hs' := hs
  unfold maxLen at hs'
  have hc : curOk s (k : Int) = true := curOk_iff.2 ⟨by omega, by omega⟩
  have he := eolLen_le s k hk
  have hE : tlE s k = k + eolLen s k := rfl
  go_enter Tryd.func38, Tryd.ntmps38
  go_wp2_with (go_at_call 43; refine (inside_any s _ _).mono ?_; rintro e w' ⟨rfl, rfl⟩)
  have T0 : Two ((((w.alloc (.cells #[.string s, .int .i64 (k : Int)] 31)).alloc (.cells #[.string ⟨#[]⟩, .int .i64 0] 31)).alloc (.cells #[.string s, .int .i64 (k : Int)] 31))) w.heap.size (.string s) (.int .i64 (k : Int)) := ((Two.new w _ _ _).alloc _).alloc _
  have R0 : Two ((((w.alloc (.cells #[.string s, .int .i64 (k : Int)] 31)).alloc (.cells #[.string ⟨#[]⟩, .int .i64 0] 31)).alloc (.cells #[.string s, .int .i64 (k : Int)] 31))) (w.heap.size + 1) (.string ⟨#[]⟩) (.int .i64 0) := by
    have := (Two.new (w.alloc (.cells #[.string s, .int .i64 (k : Int)] 31)) (.string ⟨#[]⟩) (.int .i64 0) 31).alloc (.cells #[.string s, .int .i64 (k : Int)] 31)
    simpa using this
  have G0 : Below w.heap.size w ((((w.alloc (.cells #[.string s, .int .i64 (k : Int)] 31)).alloc (.cells #[.string ⟨#[]⟩, .int .i64 0] 31)).alloc (.cells #[.string s, .int .i64 (k : Int)] 31))) := (by repeat (first | exact Below.refl _ _ | refine Below.drew ?_ | refine Below.alloc ?_ (by simp <;> omega) _ | refine Below.setCell ?_ (by simp <;> omega) _))
  refine (beforeLineEnd_any s k _ hs hk).mono ?_
  rintro e w2 ⟨rfl, hb2⟩
  have T2 := T0.later hb2
  have R2 := R0.later hb2
  have G2 := G0.trans (hb2.mono G0.size)
  clear T0 R0 G0 hb2 hc
  obtain ⟨q0, q1, q2, q3, q4⟩ := T2
  go_wp2_with fail
  refine (behind_at s _ _ k (eolLen s k) _ rfl rfl hs he).mono ?_
  rintro e w3 ⟨rfl, hb3⟩
  have T3 : Two w3 w.heap.size (.string s) (.int .i64 (k : Int)) := Two.later hb3 ⟨q0, q1, q2, q3, q4⟩
  have R3 := R2.later hb3
  have G3 := G2.trans (hb3.mono G2.size)
  clear q0 q1 q2 q3 q4 R2 G2 hb3
  have hgen : ∃ e, eolLen s k = e := ⟨_, rfl⟩
  obtain ⟨e, hge⟩ := hgen
  have D3 := Two.new w3 (.string s) (.int .i64 ((k : Int) + (eolLen s k : Nat))) 31
  have T4 := T3.alloc (.cells #[.string s, .int .i64 ((k : Int) + (eolLen s k : Nat))] 31)
  have R4 := R3.alloc (.cells #[.string s, .int .i64 ((k : Int) + (eolLen s k : Nat))] 31)
  have hbel := G3.alloc G3.size (.cells #[.string s, .int .i64 ((k : Int) + (eolLen s k : Nat))] 31)
  have hne1 : w.heap.size + 1 < w3.heap.size := R3.lt
  rw [hge] at he hE D3 T4 R4 hbel ⊢
  have HE : Hid (tlE s k = k + e) := hE
  have HG : Hid (eolLen s k = e) := hge
  clear T3 R3 G3 hE hge
  obtain ⟨d0, d1, d2, d3, d4⟩ := D3
  go_wp2_with fail
  have D3 : Two _ _ _ _ := ⟨d0, d1, d2, d3, d4⟩
  clear d0 d1 d2 d3 d4
  generalize w3.alloc (.cells #[.string s, .int .i64 ((k : Int) + (e : Int))] 31) = W at *
  have TT := T4
  have RR := R4
  have DD := D3
  have GG := hbel
  have hEE : w.heap.size + 1 < w3.heap.size := hne1
  clear T4 R4 D3 hbel hne1
  generalize w3.heap.size = E at *
  by_cases hend : k + e = s.size
  · have hfin : Hid (tlV s k = .tuple #[.string ⟨#[]⟩, curZ, .int .i64 1]) := tlV_short0 (by rw [HE.out]; exact hend)
    have hz : ((s.size : Int) - ((k : Int) + (e : Int)) == 0) = true := by simp; omega
    clear hend
    refine (left_at s _ (k + e) _ (by omega) hs (by omega)).mono ?_
    rintro e' W' ⟨rfl, hw⟩
    replace TT : Two W' w.heap.size (.string s) (.int .i64 (k : Int)) := hw ▸ TT.alloc _
    replace DD : Two W' E (.string s) (.int .i64 ((k : Int) + (e : Int))) := hw ▸ DD.alloc _
    replace RR : Two W' (w.heap.size + 1) (.string ⟨#[]⟩) (.int .i64 0) := hw ▸ RR.alloc _
    replace GG : Below w.heap.size w W' := hw ▸ (GG.alloc GG.size _)
    clear hw
    obtain ⟨t0, t1, t2, t3, t4⟩ := id TT
    obtain ⟨d0, d1, d2, d3, d4⟩ := id DD
    obtain ⟨r0, r1, r2, r3, r4⟩ := id RR
    go_wp2
    refine bodyPost_ret (v := .tuple #[.string ⟨#[]⟩, curZ, .int .i64 1]) (by simp [results, Tryd.results38, go_sem, curZ, r0, r1]) rfl ⟨by rw [hfin.out], ?_⟩
    exact (GG.setCell (by simp) _).setCell (by simp) _
  · have hlt : k + e < s.size := by omega
    have hz : ((s.size : Int) - ((k : Int) + (e : Int)) == 0) = false := by simp; omega
    clear hend
    refine (left_at s _ (k + e) _ (by omega) hs (by omega)).mono ?_
    rintro e' W' ⟨rfl, hw⟩
    replace TT : Two W' w.heap.size (.string s) (.int .i64 (k : Int)) := hw ▸ TT.alloc _
    replace DD : Two W' E (.string s) (.int .i64 ((k : Int) + (e : Int))) := hw ▸ DD.alloc _
    replace RR : Two W' (w.heap.size + 1) (.string ⟨#[]⟩) (.int .i64 0) := hw ▸ RR.alloc _
    replace GG : Below w.heap.size w W' := hw ▸ (GG.alloc GG.size _)
    clear hw
    obtain ⟨t0, t1, t2, t3, t4⟩ := id TT
    obtain ⟨d0, d1, d2, d3, d4⟩ := id DD
    obtain ⟨r0, r1, r2, r3, r4⟩ := id RR
    go_wp2_with fail
    clear t0 t1 t2 t3 t4 d0 d1 d2 d3 d4 r0 r1 r2 r3 r4
    by_cases h10 : ((at8 s (k + e)).toNat : Int) = 10
    · have g10 : (((at8 s (k + e)).toNat : Int) == 10) = true := by simpa using h10
      have hfin : Hid (tlV s k = .tuple #[.string ⟨#[]⟩, curZ, .int .i64 2]) := tlV_bad (tlC_10 (by rw [HE.out]; exact hlt) (by rw [HE.out]; omega))
      clear h10
      refine (next_at s _ (k + e) _ (by omega) hs (by omega)).mono ?_
      rintro e' W' ⟨rfl, hw⟩
      replace TT : Two W' w.heap.size (.string s) (.int .i64 (k : Int)) := hw ▸ TT.alloc _
      replace DD : Two W' E (.string s) (.int .i64 ((k : Int) + (e : Int))) := hw ▸ DD.alloc _
      replace RR : Two W' (w.heap.size + 1) (.string ⟨#[]⟩) (.int .i64 0) := hw ▸ RR.alloc _
      replace GG : Below w.heap.size w W' := hw ▸ (GG.alloc GG.size _)
      clear hw
      obtain ⟨t0, t1, t2, t3, t4⟩ := id TT
      obtain ⟨d0, d1, d2, d3, d4⟩ := id DD
      obtain ⟨r0, r1, r2, r3, r4⟩ := id RR
      go_wp2
      refine bodyPost_ret (v := .tuple #[.string ⟨#[]⟩, curZ, .int .i64 2]) (by simp [results, Tryd.results38, go_sem, curZ, r0, r1]) rfl ⟨by rw [hfin.out], ?_⟩
      exact (GG.setCell (by simp) _).setCell (by simp) _
    · have g10 : (((at8 s (k + e)).toNat : Int) == 10) = false := by simpa using h10
      refine (next_at s _ (k + e) _ (by omega) hs (by omega)).mono ?_
      rintro e' W' ⟨rfl, hw⟩
      replace TT : Two W' w.heap.size (.string s) (.int .i64 (k : Int)) := hw ▸ TT.alloc _
      replace DD : Two W' E (.string s) (.int .i64 ((k : Int) + (e : Int))) := hw ▸ DD.alloc _
      replace RR : Two W' (w.heap.size + 1) (.string ⟨#[]⟩) (.int .i64 0) := hw ▸ RR.alloc _
      replace GG : Below w.heap.size w W' := hw ▸ (GG.alloc GG.size _)
      clear hw
      obtain ⟨t0, t1, t2, t3, t4⟩ := id TT
      obtain ⟨d0, d1, d2, d3, d4⟩ := id DD
      obtain ⟨r0, r1, r2, r3, r4⟩ := id RR
      go_wp2_with fail
      clear t0 t1 t2 t3 t4 d0 d1 d2 d3 d4 r0 r1 r2 r3 r4
      by_cases hend : k + e + 1 = s.size
      · have hfin : Hid (tlV s k = .tuple #[.string ⟨#[]⟩, curZ, .int .i64 1]) := tlV_short (tlC_13end (by rw [HE.out]; exact hend) (by rw [HE.out]; omega))
        have hz1 : ((s.size : Int) - ((k : Int) + (e : Int)) == 1) = true := by simp; omega
        clear h10 hend
        refine (left_at s _ (k + e) _ (by omega) hs (by omega)).mono ?_
        rintro e' W' ⟨rfl, hw⟩
        replace TT : Two W' w.heap.size (.string s) (.int .i64 (k : Int)) := hw ▸ TT.alloc _
        replace DD : Two W' E (.string s) (.int .i64 ((k : Int) + (e : Int))) := hw ▸ DD.alloc _
        replace RR : Two W' (w.heap.size + 1) (.string ⟨#[]⟩) (.int .i64 0) := hw ▸ RR.alloc _
        replace GG : Below w.heap.size w W' := hw ▸ (GG.alloc GG.size _)
        clear hw
        obtain ⟨t0, t1, t2, t3, t4⟩ := id TT
        obtain ⟨d0, d1, d2, d3, d4⟩ := id DD
        obtain ⟨r0, r1, r2, r3, r4⟩ := id RR
        go_wp2
        refine bodyPost_ret (v := .tuple #[.string ⟨#[]⟩, curZ, .int .i64 1]) (by simp [results, Tryd.results38, go_sem, curZ, r0, r1]) rfl ⟨by rw [hfin.out], ?_⟩
        exact (GG.setCell (by simp) _).setCell (by simp) _
      · have hlt2 : k + e + 1 < s.size := by omega
        have hz1 : ((s.size : Int) - ((k : Int) + (e : Int)) == 1) = false := by simp; omega
        clear hend
        refine (left_at s _ (k + e) _ (by omega) hs (by omega)).mono ?_
        rintro e' W' ⟨rfl, hw⟩
        replace TT : Two W' w.heap.size (.string s) (.int .i64 (k : Int)) := hw ▸ TT.alloc _
        replace DD : Two W' E (.string s) (.int .i64 ((k : Int) + (e : Int))) := hw ▸ DD.alloc _
        replace RR : Two W' (w.heap.size + 1) (.string ⟨#[]⟩) (.int .i64 0) := hw ▸ RR.alloc _
        replace GG : Below w.heap.size w W' := hw ▸ (GG.alloc GG.size _)
        clear hw
        obtain ⟨t0, t1, t2, t3, t4⟩ := id TT
        obtain ⟨d0, d1, d2, d3, d4⟩ := id DD
        obtain ⟨r0, r1, r2, r3, r4⟩ := id RR
        go_wp2_with fail
        clear t0 t1 t2 t3 t4 d0 d1 d2 d3 d4 r0 r1 r2 r3 r4
        refine (behind_at s _ _ (k + e) 1 _ (by omega) rfl hs (by omega)).mono ?_
        rintro e' W' ⟨rfl, hw⟩
        replace TT : Two W' w.heap.size (.string s) (.int .i64 (k : Int)) := TT.later hw
        replace DD : Two W' E (.string s) (.int .i64 ((k : Int) + (e : Int))) := DD.later hw
        replace RR : Two W' (w.heap.size + 1) (.string ⟨#[]⟩) (.int .i64 0) := RR.later hw
        replace GG : Below w.heap.size w W' := GG.trans (hw.mono GG.size)
        clear hw
        obtain ⟨t0, t1, t2, t3, t4⟩ := id TT
        obtain ⟨d0, d1, d2, d3, d4⟩ := id DD
        obtain ⟨r0, r1, r2, r3, r4⟩ := id RR
        go_wp2_with fail
        clear t0 t1 t2 t3 t4 d0 d1 d2 d3 d4 r0 r1 r2 r3 r4
        by_cases hn : ((at8 s (k + e + 1)).toNat : Int) = 10
        · have gn : (((at8 s (k + e + 1)).toNat : Int) != 10) = false := by simpa using hn
          have hfin : Hid (tlV s k = .tuple #[.string (s.extract k (k + e)), .agg #[.string s, .int .i64 ((k : Int) + (e : Int) + 2)], .int .i64 0]) := by
            have := tlV_ok (tlC_ok (s := s) (k := k) (by rw [HE.out]; exact hlt2) (by rw [HE.out]; omega) (by rw [HE.out]; omega))
            rw [HE.out] at this
            rw [show (k : Int) + (e : Int) = ((k + e : Nat) : Int) from by omega]
            exact this
          clear h10 hn
          refine (next_at s _ (k + e + 1) _ (by omega) hs (by omega)).mono ?_
          rintro e' W' ⟨rfl, hw⟩
          replace TT : Two W' w.heap.size (.string s) (.int .i64 (k : Int)) := hw ▸ TT.alloc _
          replace DD : Two W' E (.string s) (.int .i64 ((k : Int) + (e : Int))) := hw ▸ DD.alloc _
          replace RR : Two W' (w.heap.size + 1) (.string ⟨#[]⟩) (.int .i64 0) := hw ▸ RR.alloc _
          replace GG : Below w.heap.size w W' := hw ▸ (GG.alloc GG.size _)
          clear hw
          obtain ⟨t0, t1, t2, t3, t4⟩ := id TT
          obtain ⟨d0, d1, d2, d3, d4⟩ := id DD
          obtain ⟨r0, r1, r2, r3, r4⟩ := id RR
          go_wp2_with fail
          clear hz hz1 g10 gn t2 t3 d2 d3
          have hww : w.heap.size < W'.heap.size := t4
          have he0 : k + e ≤ s.size := by omega
          have he2 : k + e + 2 ≤ s.size := by omega
          have hke : ((k : Int) + (e : Int)) = ((k + e : Nat) : Int) := by omega
          have HKE : Hid (((k : Int) + (e : Int)) = ((k + e : Nat) : Int)) := hke
          clear hke
          go_region_with (first | (go_at_call 48; refine (part_any s k e _ hs he0).mono ?_; rintro e' w' ⟨rfl, rfl⟩) | (go_at_call 45; refine (behind_at s _ _ (k + e) 2 _ HKE.out rfl hs he2).mono ?_; rintro e' w2 ⟨rfl, hb2⟩; obtain ⟨hcc, hff⟩ := bcell hb2; have hzz := hb2.size))
          all_goals go_wp2
          all_goals
            have X : Two w2 (w.heap.size + 1) (.string ⟨#[]⟩) (.int .i64 0) := Two.later hb2 (by first | exact RR.drew | exact (RR.alloc _).drew)
            have x0 := X.c0
            have x1 := X.c1
            refine bodyPost_ret (v := .tuple #[.string (s.extract k (k + e)), .agg #[.string s, .int .i64 ((k : Int) + (e : Int) + 2)], .int .i64 0]) (by simp [results, Tryd.results38, go_sem, x0, x1]) rfl ⟨by rw [hfin.out], ?_⟩
            have Y : Below w.heap.size w w2 := Below.trans (by first | exact GG.drew | exact (GG.alloc GG.size _).drew) (hb2.mono (by have := GG.size; simp <;> omega))
            exact (Y.setCell (by simp) _).setCell (by simp) _
        · have gn : (((at8 s (k + e + 1)).toNat : Int) != 10) = true := by simpa using hn
          have hfin : Hid (tlV s k = .tuple #[.string ⟨#[]⟩, curZ, .int .i64 2]) := tlV_bad (tlC_no (by rw [HE.out]; exact hlt2) (by rw [HE.out]; omega) (by rw [HE.out]; omega))
          clear h10 hn
          refine (next_at s _ (k + e + 1) _ (by omega) hs (by omega)).mono ?_
          rintro e' W' ⟨rfl, hw⟩
          replace TT : Two W' w.heap.size (.string s) (.int .i64 (k : Int)) := hw ▸ TT.alloc _
          replace DD : Two W' E (.string s) (.int .i64 ((k : Int) + (e : Int))) := hw ▸ DD.alloc _
          replace RR : Two W' (w.heap.size + 1) (.string ⟨#[]⟩) (.int .i64 0) := hw ▸ RR.alloc _
          replace GG : Below w.heap.size w W' := hw ▸ (GG.alloc GG.size _)
          clear hw
          obtain ⟨t0, t1, t2, t3, t4⟩ := id TT
          obtain ⟨d0, d1, d2, d3, d4⟩ := id DD
          obtain ⟨r0, r1, r2, r3, r4⟩ := id RR
          go_wp2
          refine bodyPost_ret (v := .tuple #[.string ⟨#[]⟩, curZ, .int .i64 2]) (by simp [results, Tryd.results38, go_sem, curZ, r0, r1]) rfl ⟨by rw [hfin.out], ?_⟩
          exact (GG.setCell (by simp) _).setCell (by simp) _
end Go.Proofs.YtodandipfjamnaaDoor
