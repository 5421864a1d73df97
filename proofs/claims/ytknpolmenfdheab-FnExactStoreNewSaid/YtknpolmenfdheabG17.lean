/-
  What the exact laws do with stores: marks, and whether they are held.
-/
import Derived.Test.YtknpolmenfdheabG8
import Derived.Lib.ConvBytes
import Derived.Lib.SmallJoins
namespace Go.Proofs.Ytknpolmenfdheab
set_option linter.unusedVariables false
set_option linter.unusedSimpArgs false
open Go.RowKit
/-- The digits of k ahead of what is there. -/
def mtF : Nat → Nat → List UInt8 → List UInt8
  | 0, _, out => out
  | f + 1, k, out => if k = 0 then out else mtF f (k / 10) (UInt8.ofNat (48 + k % 10) :: out)
theorem mtF_zero (f : Nat) (out : List UInt8) : mtF f 0 out = out := by cases f <;> rfl
theorem mtF_pos {f k : Nat} (h : 0 < k) (out : List UInt8) : mtF (f + 1) k out = mtF f (k / 10) (UInt8.ofNat (48 + k % 10) :: out) := by rw [mtF, if_neg (by omega)]
def mtB (k : Nat) : ByteArray := ⟨(109 :: mtF 8 k []).toArray⟩
theorem convM {P : Program} (src e dst : TypeId) (hs : P.underlying src = some (.slice e)) (he : P.underlying e = some (.int .u8)) (hd : P.underlying dst = some .string) (w : World) (b cap : Nat) (x : Int) (hc : w.cell? ⟨b, 0, none⟩ = some (.int .u8 x)) :
    (convert src dst (.slice (some ⟨b, 0, none⟩) 1 cap)).run P w = .ok (.string ⟨#[UInt8.ofNat x.toNat]⟩) w :=
  run_convert_bytes_arg (P := P) w src e hs he b 0 1 cap [x] rfl (fun i hi => by obtain rfl : i = 0 := by omega
                                                                                 exact hc) dst hd
theorem mt_eq (r : Nat) (l : List UInt8) : Value.string (⟨#[48 + UInt8.ofNat r]⟩ ++ ⟨l.toArray⟩) = .string ⟨(UInt8.ofNat (48 + r) :: l).toArray⟩ := by
  have h : (ByteArray.mk #[48 + UInt8.ofNat r] ++ ByteArray.mk l.toArray) = ⟨(UInt8.ofNat (48 + r) :: l).toArray⟩ := by
    apply bytes_ext
    rw [Go.Joins.data_append]; simp
  rw [h]
set_option maxHeartbeats 1000000 in
theorem markText_any (k : Nat) (w : World) (h1 : 0 < k) (h2 : k ≤ 4194304) :
    Calls Try.prog 35 #[.int .i64 (k : Int)] w fun e w' => e = .returned (.string (mtB k)) ∧ Below w.heap.size w w' := by
  have kb := fun (w : World) (b cap : Nat) (x : Int) => convM (P := Try.prog) 49 5 9 Try.underlying49 Try.underlying5 Try.underlying9 w b cap x
  have hn0 : ¬ (k : Int) ≤ 0 := by omega
  go_enter Try.func35, Try.ntmps35
  go_wp2
  go_loopw [0, 3] (fun kk o wr => ∃ (f j : Nat) (l : List UInt8), kk = .int .i64 (j : Int) ∧ o = .string ⟨l.toArray⟩ ∧ mtF 8 k [] = mtF f j l ∧ j < 10 ^ f ∧ l.length + f ≤ 8 ∧ j ≤ 4194304 ∧ Below w.heap.size w wr) (fun kk _ _ => (intOf kk).toNat)
  case atStart => exact ⟨8, k, [], rfl, rfl, rfl, by omega, by simp, h2, Below.refl _ _⟩
  case round =>
    obtain ⟨f, j, l, rfl, rfl, hj, hjf, hl, hjm, hbw⟩ := hrel
    have HJ : Hid (mtF 8 k [] = mtF f j l) := hj
    have hsl : (ByteArray.mk l.toArray).size ≤ 8 := by show l.toArray.size ≤ _; simp; omega
    clear hj
    by_cases h0 : 0 < j
    · have hp : (0 : Int) < (j : Int) := by omega
      obtain ⟨f, rfl⟩ : ∃ f', f = f' + 1 := by
        cases f with
        | zero => simp at hjf; omega
        | succ f => exact ⟨f, rfl⟩
      obtain ⟨q, r, hqr, hr⟩ : ∃ q r : Nat, j = 10 * q + r ∧ r < 10 := ⟨j / 10, j % 10, by omega, by omega⟩
      have HS : Hid (mtF 8 k [] = mtF f q (UInt8.ofNat (48 + r) :: l)) := by
        show _ = _
        rw [HJ.out, mtF_pos h0, show j / 10 = q from by omega, show j % 10 = r from by omega]
      have hqf : q < 10 ^ f := by rw [Nat.pow_succ] at hjf; omega
      have HQF := hideB2 hqf
      have HLF := hideB2 hl
      have e1 : IntKind.i64.wrap ((j : Int) / 10) = (q : Int) := by rw [IntKind.wrap_i64]; omega
      have e2 : ((j : Int)).tmod 10 = (r : Int) := by rw [Int.tmod_eq_emod_of_nonneg (by omega)]; omega
      have e3 : IntKind.i64.wrap (48 + (r : Int)) = 48 + (r : Int) := by rw [IntKind.wrap_i64]; omega
      have e4 : IntKind.u8.wrap (48 + (r : Int)) = 48 + (r : Int) := by rw [IntKind.wrap_u8]; omega
      have HQ : Hid (j = 10 * q + r) := hqr
      have hl9 : l.length ≤ 8 := by omega
      clear hqr hqf hl hjf
      go_wp2
      go_round
      case rel => exact ⟨f, q, UInt8.ofNat (48 + r) :: l, by go_num, mt_eq r l, HS.out, HQF.out, by have := HLF.out; simp; omega, by have := HQ.out; omega, hbw.alloc hbw.size _⟩
      case measure => have := HQ.out; simp [intOf] <;> omega
    · have hp : ¬ (0 : Int) < (j : Int) := by omega
      have HE : Hid (mtB k = ⟨#[109]⟩ ++ ⟨l.toArray⟩) := by
        show _ = _
        obtain rfl : j = 0 := by omega
        unfold mtB; rw [HJ.out, mtF_zero]
        apply bytes_ext
        rw [Go.Joins.data_append]; simp
      go_wp2
      go_ret
      exact ⟨ret_str HE.out, hbw⟩
/-- The marks of n segments. -/
def marksG (n : Nat) : List Sg := (List.range n).map fun i => (mtB (2 * i + 1), ((2 * i + 2 : Nat) : Int))
theorem marksG_len (n : Nat) : (marksG n).length = n := by simp [marksG]
theorem marksG_at (n j : Nat) (h : j < n) : sgAt (marksG n) j = (mtB (2 * j + 1), ((2 * j + 2 : Nat) : Int)) := by
  rw [sgAt_get (by rw [marksG_len]; exact h)]; simp [marksG]
theorem marksG_next (l : List Sg) (k : Nat) (h : k < l.length) : (marksG k ++ l.drop k).set k (mtB (2 * k + 1), ((2 * k + 2 : Nat) : Int)) = marksG (k + 1) ++ l.drop (k + 1) := by
  rw [List.set_append_right _ _ (by rw [marksG_len]; exact Nat.le_refl _), marksG_len, Nat.sub_self, List.drop_eq_getElem_cons h, List.set_cons_zero]
  simp [marksG, List.range_succ]
theorem grown_then {w w1 w2 : World} {r : Option Nat} (h : w.grownBy w1 r) (hb : Below w1.heap.size w1 w2) : w.grownBy w2 r :=
  ⟨hb.os.trans h.os, hb.tape.trans h.tape, hb.output.trans h.output, Nat.le_trans h.size hb.size, fun k hk hn => by rw [hb.block k (Nat.lt_of_lt_of_le hk h.size)]; exact h.block k hk hn⟩
theorem grown_set {w w1 : World} {g : Nat} (h : w.grownBy w1 (some g)) (o : Nat) (u : Value) : w.grownBy (w1.setCell ⟨g, o, none⟩ u) (some g) :=
  World.grownBy.trans h ⟨rfl, rfl, rfl, by simp [World.setCell], fun k _ hne => Below.heap_setCell _ _ _ _ (fun e => hne (by simp at e; rw [e]))⟩
theorem grown_refl (w : World) (r : Option Nat) : w.grownBy w r := ⟨rfl, rfl, rfl, Nat.le_refl _, fun _ _ _ => rfl⟩
set_option maxHeartbeats 2000000 in
theorem markSegS_any (v : Value) (l : List Sg) (w : World) (hv : SlG w v l) (hm : l.length ≤ 1048576) :
    Calls Try.prog 29 #[v, .int .i64 1] w fun e w' => e = .returned (.int .i64 (1 + 2 * (l.length : Int))) ∧ SlG w' v (marksG l.length) ∧ w.grownBy w' v.ownBlock := by
  obtain ⟨a, c0, rfl⟩ := hv.form
  generalize hn : l.length = n at *
  have HN := hideB2 hn
  have HV := hideB2 hv
  clear hn hv
  go_enter Try.func29, Try.ntmps29
  go_wp2
  go_loopw [1, 5] (fun kk i wr => ∃ k : Nat, k ≤ n ∧ i = .int .i64 k ∧ kk = .int .i64 (1 + 2 * (k : Int)) ∧ SlG wr (.slice a n c0) (marksG k ++ l.drop k) ∧ w.grownBy wr (Value.slice a n c0).ownBlock) (fun _ i _ => n - (intOf i).toNat)
  case atStart => exact ⟨0, Nat.zero_le _, rfl, rfl, by simpa [marksG] using HV.out, grown_refl _ _⟩
  case round =>
    obtain ⟨k, hk, rfl, rfl, hs, hgr⟩ := hrel
    have hlen : (marksG k ++ l.drop k).length = n := by rw [List.length_append, marksG_len, List.length_drop, HN.out]; omega
    by_cases hlt : k < n
    · obtain ⟨b, rfl, hr⟩ := hs.row (by rw [hlen]; omega)
      have HNX := hideB2 (marksG_next l k (by rw [HN.out]; exact hlt))
      have HLN := hideB2 hlen
      have HR := hideB2 hr
      have HGR := hideB2 hgr
      clear hr hgr hs hlen
      have e0 : 1 + 2 * (k : Int) = ((2 * k + 1 : Nat) : Int) := by omega
      rw [e0]
      go_wp2_with fail
      refine (markText_any (2 * k + 1) _ (by omega) (by omega)).mono ?_
      rintro e w2 ⟨rfl, hb2⟩
      have hr2 := HR.out.keep hb2
      have hd0 := hr2.dat k (by rw [HLN.out]; exact hlt)
      have hd1 := hr2.saf k (by rw [HLN.out]; exact hlt)
      have hf0 := hr2.free (k * 2)
      have hf1 := hr2.free (k * 2 + 1)
      have R := hr2.set k (mtB (2 * k + 1)) ((2 * k + 2 : Nat) : Int) (by rw [HLN.out]; exact hlt)
      rw [HNX.out] at R
      have e9 : ((2 * k + 2 : Nat) : Int) = ((2 * k + 1 : Nat) : Int) + 1 := by omega
      rw [e9] at R
      have HR2 := hideB2 R
      have HG2 := hideB2 (grown_set (grown_set (grown_then HGR.out hb2) (k * 2) (.string (mtB (2 * k + 1)))) (k * 2 + 1) (.int .i64 (((2 * k + 1 : Nat) : Int) + 1)))
      clear R hr2 hb2 HR HGR HNX e9 e0
      generalize (sgAt (marksG k ++ l.drop k) k).1 = y0 at *
      generalize (sgAt (marksG k ++ l.drop k) k).2 = y1 at *
      generalize mtB (2 * k + 1) = mt at *
      go_wp2
      refine ⟨⟨k + 1, by omega, by go_num, by simp; omega, ?_, HG2.out⟩, by simp [intOf]; omega⟩
      exact HR2.out.sl (by rw [List.length_append, marksG_len, List.length_drop, HN.out]; omega) c0
    · obtain rfl : k = n := by omega
      have hsn : SlG wr (.slice a k c0) (marksG k) := by
        have hh := hs
        rwa [List.drop_of_length_le (by rw [HN.out]; exact Nat.le_refl _), List.append_nil] at hh
      go_wp2
      go_ret
      exact ⟨rfl, hsn, hgr⟩
set_option maxHeartbeats 2000000 in
theorem heldSegS_any (v : Value) (n : Nat) (w : World) (hv : SlG w v (marksG n)) (hm : n ≤ 1048576) :
    Calls Try.prog 30 #[v, .int .i64 1] w fun e w' => e = .returned (.int .i64 (1 + 2 * (n : Int))) ∧ Below w.heap.size w w' := by
  obtain ⟨a, c0, rfl⟩ := hv.form
  have HV := hideB2 hv
  rw [marksG_len] at *
  clear hv
  go_enter Try.func30, Try.ntmps30
  go_wp2
  go_loopw [1, 5] (fun kk i wr => ∃ k : Nat, k ≤ n ∧ i = .int .i64 k ∧ kk = .int .i64 (1 + 2 * (k : Int)) ∧ Below w.heap.size w wr) (fun _ i _ => n - (intOf i).toNat)
  case atStart => exact ⟨0, Nat.zero_le _, rfl, rfl, Below.refl _ _⟩
  case round =>
    obtain ⟨k, hk, rfl, rfl, hb⟩ := hrel
    by_cases hlt : k < n
    · obtain ⟨b, rfl, hr⟩ := HV.out.row (by rw [marksG_len]; omega)
      have hr1 := hr.keep hb
      have p0 := hr1.dat k (by rw [marksG_len]; exact hlt)
      have p1 := hr1.saf k (by rw [marksG_len]; exact hlt)
      rw [marksG_at n k hlt] at p0 p1
      simp only at p0 p1
      have e0 : 1 + 2 * (k : Int) = ((2 * k + 1 : Nat) : Int) := by omega
      have e9 : ((2 * k + 2 : Nat) : Int) = ((2 * k + 1 : Nat) : Int) + 1 := by omega
      rw [e9] at p1
      rw [e0]
      have z0 := fun V => grw_some p0 V
      have z1 := fun V => grw_some p1 V
      have HMT := hideB2 (fun V : Gr wr => markText_any (2 * k + 1) (grw wr V) (by omega) (by omega))
      have HB := hideB2 hb
      generalize mtB (2 * k + 1) = mt at *
      have hmt : (mt.toList == mt.toList) = true := by simp
      clear hr hr1 hb e0 e9 p0 p1
      go_wp2
      refine wp_region_grow ?_ ?_ ?_
      · kernel_rfl
      · kernel_rfl
      · intro hne
        repeat (go_big_quiet_step ((go_at_call 35; exact grow_call (HMT.out _))))
        refine wpQuiet_nil ?_
        rintro _ ⟨V, rfl⟩
        have hbb := hideB2 (below_then HB.out (grw_below wr V))
        have y1 := z1 V
        clear z0 z1 HMT HB
        generalize grw wr V = w3 at *
        go_wp2
        exact ⟨⟨k + 1, by omega, by go_num, by simp; omega, hbb.out⟩, by simp [intOf]; omega⟩
    · obtain rfl : k = n := by omega
      go_wp2
      go_ret
      exact ⟨rfl, hb⟩
set_option maxHeartbeats 1000000 in
theorem markStore_any (v : Value) (l : List Sg) (c : Int) (w : World) (hv : SlG w v l) (hm : l.length ≤ 1048576) :
    Calls Try.prog 15 #[.agg #[v, .int .i64 c], .int .i64 1] w fun e w' => e = .returned (.int .i64 (1 + 2 * (l.length : Int))) ∧ SlG w' v (marksG l.length) ∧ w.grownBy w' v.ownBlock := by
  have hone := hv.one
  have ha := below_a1 w (.cells #[v, .int .i64 c] 29)
  have HG := hideB2 (grown_then (grown_refl w v.ownBlock) ha)
  have HM := hideB2 (markSegS_any v l _ (hv.later ha) hm)
  clear hv
  go_enter Try.func15, Try.ntmps15
  go_wp2_with fail
  refine HM.out.mono ?_
  rintro e w1 ⟨rfl, hs1, hg1⟩
  have HS := hideB2 hs1
  have HG1 := hideB2 (World.grownBy.trans HG.out hg1)
  clear hs1 hg1
  go_wp2
  go_ret
  exact ⟨rfl, HS.out, HG1.out⟩
set_option maxHeartbeats 1000000 in
theorem heldStore_any (v : Value) (n : Nat) (c : Int) (w : World) (hv : SlG w v (marksG n)) (hm : n ≤ 1048576) :
    Calls Try.prog 16 #[.agg #[v, .int .i64 c], .int .i64 1] w fun e w' => e = .returned (.int .i64 (1 + 2 * (n : Int))) ∧ Below w.heap.size w w' := by
  have hone := hv.one
  have ha := below_a1 w (.cells #[v, .int .i64 c] 29)
  have HM := hideB2 (heldSegS_any v n _ (hv.later ha) hm)
  have h0 : ¬ 1 + 2 * (n : Int) < 0 := by omega
  clear hv
  go_enter Try.func16, Try.ntmps16
  go_wp2_with fail
  refine HM.out.mono ?_
  rintro e w1 ⟨rfl, hb1⟩
  have HB := hideB2 (below_then ha hb1)
  clear hb1
  go_wp2
  go_ret
  exact ⟨rfl, HB.out⟩
end Go.Proofs.Ytknpolmenfdheab
