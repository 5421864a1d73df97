/-
  Chapter 4: ownStore, storeCode: a store of the call's own; what refuses.
-/
import Derived.Test.YtknpolmenfdheaaDoorG5
import Derived.Test.YtknpolmenfdheaaDoorG6
import Derived.BigRegion
import Derived.Deep.RegionWith
namespace Go.Proofs.YtknpolmenfdheaaDoor
set_option linter.unusedVariables false
set_option linter.unusedSimpArgs false
open Go.RowKit
/-- No store: the zero value. -/
def noStore : Value := .agg #[.slice none 0 0, .int .i64 0]
/-- What refuses, with its code. -/
def seI (c : Int) (y : ByteArray) : Value := .iface 74 (.agg #[.int .i64 c, .string y])
set_option maxHeartbeats 2000000 in
theorem ownStore_no (v : Value) (l : List Sg) (c : Int) (w : World) (hv : SlG w v l) (hl : l.length ≤ 1048576) (ht : totG l ≤ 1099511627776) (hq : storeQ l c = false) :
    Calls Tryd.prog 46 #[.agg #[v, .int .i64 c]] w fun e w' => (∃ y, e = .returned (.tuple #[noStore, seI 1 y])) ∧ Below w.heap.size w w' := by
  have hone := hv.one
  have A0 := (Blk.new w #[v, .int .i64 c] 25).alloc (.cells #[.slice none 0 0, .int .i64 0] 25)
  have A1 := Blk.new (w.alloc (.cells #[v, .int .i64 c] 25)) #[.slice none 0 0, .int .i64 0] 25
  have hsz : (w.alloc (.cells #[v, .int .i64 c] 25)).heap.size = w.heap.size + 1 := by simp
  rw [hsz] at A1
  have ha := below_a2 w (.cells #[v, .int .i64 c] 25) (.cells #[.slice none 0 0, .int .i64 0] 25)
  have HA := hideB2 A0
  have HA1 := hideB2 A1
  have HV := hideB2 (hv.later ha)
  clear A0 A1 hsz hv
  go_enter Tryd.func46, Tryd.ntmps46
  go_wp2_with fail
  refine (StoreOk_any v l c _ HV.out hl ht).mono ?_
  rintro e w1 ⟨rfl, hb1⟩
  rw [hq]
  have K1 := HA1.out.later hb1
  obtain ⟨p0, p1⟩ := K1.c2
  have f0 := K1.free 0
  have f1 := K1.free 1
  have HK := hideB2 K1
  have HB := hideB2 (below_then ha hb1)
  clear K1 ha hb1 HV HA HA1 hq
  go_wp2
  refine bodyPost_ret (results_cellT rfl _ _ _ rfl (HK.out.set2 _ _) Tryd.underlying25 Tryd.infoStore) rfl ⟨⟨_, rfl⟩, below_set2 HB.out (by omega) _ _⟩
set_option maxHeartbeats 4000000 in
theorem ownStore_yes (v : Value) (l : List Sg) (c : Int) (w : World) (hv : SlG w v l) (ht : totG l ≤ 1099511627776) (hq : storeQ l c = true) :
    Calls Tryd.prog 46 #[.agg #[v, .int .i64 c]] w fun e w' => ∃ g cap, e = .returned (.tuple #[.agg #[.slice (some ⟨g, 0, none⟩) l.length cap, .int .i64 c], .nilIface]) ∧ w.heap.size ≤ g ∧ GB w' g cap l ∧ Below w.heap.size w w' := by
  obtain ⟨_, _, q1, q2, _, _⟩ := storeQ_iff.1 hq
  obtain ⟨a, c0, rfl⟩ := hv.form
  have hn : l.length = l.length := rfl
  generalize hm : l.length = n at *
  have HN := hideB2 hm
  clear hm hn
  have A0 := (Blk.new w #[.slice a n c0, .int .i64 c] 25).alloc (.cells #[.slice none 0 0, .int .i64 0] 25)
  have A1 := Blk.new (w.alloc (.cells #[.slice a n c0, .int .i64 c] 25)) #[.slice none 0 0, .int .i64 0] 25
  have hsz : (w.alloc (.cells #[.slice a n c0, .int .i64 c] 25)).heap.size = w.heap.size + 1 := by simp
  rw [hsz] at A1
  have ha := below_a2 w (.cells #[.slice a n c0, .int .i64 c] 25) (.cells #[.slice none 0 0, .int .i64 0] 25)
  have HA := hideB2 A0
  have HA1 := hideB2 A1
  have HV := hideB2 (hv.later ha)
  clear A0 A1 hsz hv
  go_enter Tryd.func46, Tryd.ntmps46
  go_wp2_with fail
  refine (StoreOk_any _ l c _ HV.out (by rw [HN.out]; omega) ht).mono ?_
  rintro e w1 ⟨rfl, hb1⟩
  rw [hq]
  have K0 := HA.out.later hb1
  have K1 := HA1.out.later hb1
  obtain ⟨b, rfl, hr⟩ := (HV.out.later hb1).row (by rw [HN.out]; omega)
  have HR := hideB2 hr
  have HB := hideB2 (below_then ha hb1)
  have hsz1 := hb1.size
  simp at hsz1
  have HSZ := hideB2 hsz1
  have r0 : ∀ W, Below w1.heap.size w1 W → W.cell? ⟨w.heap.size, 0, none⟩ = some (.slice (some ⟨b, 0, none⟩) n c0) := fun W h => (K0.later h).cell 0
  obtain ⟨k0, k1⟩ := K0.c2
  have HK0 := hideB2 K0
  have HK1 := hideB2 K1
  clear K0 K1 r0 hr ha hb1 HV HA HA1 hq hsz1
  go_wp2
  go_region_with (go_at_call 56; refine (Clone_any b c0 n l _ (HR.out.drewN 1) HN.out (by omega) (by omega)).mono ?_; rintro e w2 ⟨g, cap', rfl, hg, hgb, hb2⟩; have j0 : w2.cell? ⟨w.heap.size, 1, none⟩ = some (.int .i64 c) := ((HK0.out.drewN 1).later hb2).cell 1; have t0 : w2.cell? ⟨w.heap.size + 1, 0, none⟩ = some (.slice none 0 0) := ((HK1.out.drewN 1).later hb2).cell 0; have t1 : w2.cell? ⟨w.heap.size + 1, 1, none⟩ = some (.int .i64 0) := ((HK1.out.drewN 1).later hb2).cell 1; have f0 := ((HK1.out.drewN 1).later hb2).free 0; have f1 := ((HK1.out.drewN 1).later hb2).free 1)
  all_goals
    have HK2 := hideB2 ((HK1.out.drewN 1).later hb2)
    have HG := hideB2 hgb
    have HB2 := hideB2 (below_then (below_drewN HB.out 1) hb2)
    have hge : w1.heap.size ≤ g := hg
    have hge2 : w.heap.size + 1 < g := by have := HSZ.out; omega
    clear hgb hb2 hg hge
    go_wp2
    refine bodyPost_ret (results_cellT rfl _ _ _ rfl (HK2.out.set2 _ _) Tryd.underlying25 Tryd.infoStore) rfl ⟨g, cap', rfl, by omega, HG.out.oth2 (by omega) _ _, below_set2 HB2.out (by omega) _ _⟩
/-- The library's type of errors, as the program's start lays it. -/
def EG (w : World) : Prop := w.cell? ⟨0, 0, none⟩ = some (.iface 93 (.agg #[.pointer (some ⟨1, 55, none⟩)]))
theorem EG.later {w w' : World} (h : EG w) (k : Below w.heap.size w w') : EG w' := by
  unfold EG at *
  rw [k.cell (p := ⟨0, 0, none⟩) (World.block_lt_of_cell? _ _ h)]; exact h
theorem below_setRow {B g : Nat} {w0 w : World} (h : Below B w0 w) (hg : B ≤ g) (c : Array Value) : Below B w0 (w.setRow g c) := by
  refine h.trans ⟨rfl, rfl, rfl, by simp [World.setRow], fun b hb => setRow_other w g b c (by omega)⟩
set_option maxHeartbeats 1000000 in
theorem storeCode_nil (w : World) : Calls Tryd.prog 38 #[.nilIface] w fun e w' => e = .returned (.int .i64 0) ∧ Below w.heap.size w w' := by
  go_enter Tryd.func38, Tryd.ntmps38
  go_wp2_with (go_at_call 55; refine (as_nil _ _).mono ?_; rintro e w' ⟨rfl, rfl⟩)
  go_ret
  exact ⟨rfl, below_a1 w _⟩
set_option maxHeartbeats 1000000 in
theorem storeCode_hit (c : Int) (y : ByteArray) (w : World) (hg : EG w) : Calls Tryd.prog 38 #[seI c y] w fun e w' => e = .returned (.int .i64 c) ∧ Below w.heap.size w w' := by
  have K := Blk.new w #[.int .i64 0, .string ⟨#[]⟩] 74
  have hg1 := hg.later (below_a1 w (.cells #[.int .i64 0, .string ⟨#[]⟩] 74))
  have HH := hideB2 (as_hit c y w.heap.size _ _ _ hg1 K rfl)
  have HB1 := hideB2 (below_a1 w (.cells #[.int .i64 0, .string ⟨#[]⟩] 74))
  clear K hg1 hg
  unfold seI
  go_enter Tryd.func38, Tryd.ntmps38
  go_wp2_with fail
  refine HH.out.mono ?_
  rintro e w1 ⟨rfl, hb, hw⟩
  have p0 := hb.cell 0
  have HB := hideB2 (show Below w.heap.size w w1 by
    rw [hw]
    refine below_setRow ?_ (Nat.le_refl _) _
    exact below_then (below_then (below_then (below_then HB1.out (below_a1 _ _)) (below_a1 _ _)) (below_a1 _ _)) (below_a1 _ _))
  clear hw HH HB1
  go_wp2
  go_ret
  exact ⟨rfl, HB.out⟩
end Go.Proofs.YtknpolmenfdheaaDoor
