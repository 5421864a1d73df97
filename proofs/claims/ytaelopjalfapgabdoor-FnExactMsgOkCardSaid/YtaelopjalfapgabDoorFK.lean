/-
  What the exact laws do with fields: marks, and whether they are held.
-/
import Derived.Test.YtaelopjalfapgabDoorF1
import Derived.Test.YtaelopjalfapgabDoorMK
namespace Go.Proofs.YtaelopjalfapgabDoor
set_option linter.unusedVariables false
set_option linter.unusedSimpArgs false
open Go.RowKit
/-- The marks of n fields. -/
def marksF (n : Nat) : List Fd := (List.range n).map fun i => (mtB (2 * i + 1), mtB (2 * i + 2))
theorem marksF_len (n : Nat) : (marksF n).length = n := by simp [marksF]
theorem marksF_at (n j : Nat) (h : j < n) : fdAt (marksF n) j = (mtB (2 * j + 1), mtB (2 * j + 2)) := by
  rw [fdAt_get (by rw [marksF_len]; exact h)]; simp [marksF]
theorem marksF_next (l : List Fd) (k : Nat) (h : k < l.length) : (marksF k ++ l.drop k).set k (mtB (2 * k + 1), mtB (2 * k + 2)) = marksF (k + 1) ++ l.drop (k + 1) := by
  rw [List.set_append_right _ _ (by rw [marksF_len]; exact Nat.le_refl _), marksF_len, Nat.sub_self, List.drop_eq_getElem_cons h, List.set_cons_zero]
  simp [marksF, List.range_succ]
theorem fdAt_set (l : List Fd) (k : Nat) (x : Fd) (h : k < l.length) : fdAt (l.set k x) k = x := by
  rw [fdAt_get (by rw [List.length_set]; exact h), List.getElem_set]; simp
theorem fdAt_set_ne (l : List Fd) (k j : Nat) (x : Fd) (h : j < l.length) (hne : j ≠ k) : fdAt (l.set k x) j = fdAt l j := by
  rw [fdAt_get (by rw [List.length_set]; exact h), List.getElem_set, if_neg (Ne.symm hne), fdAt_get h]
/-- Number k gets a new name. -/
theorem RowF.setN {w : World} {b : Nat} {l : List Fd} (h : RowF w b l) (k : Nat) (d : ByteArray) (hk : k < l.length) : RowF (w.setCell ⟨b, k * 2, none⟩ (.string d)) b (l.set k (d, (fdAt l k).2)) := by
  refine ⟨fun j hj => ?_, fun j hj => ?_, fun j => ?_, by simpa [World.setCell] using h.lt⟩
  · rw [List.length_set] at hj
    by_cases e : j = k
    · subst e
      rw [fdAt_set l j _ hj, World.cell?_setCell_same _ _ _ (h.dat j hj)]
    · rw [fdAt_set_ne l k j _ hj e, World.cell?_setCell_other _ _ _ _ (by intro hh; injection hh with _ h2; omega), h.dat j hj]
  · rw [List.length_set] at hj
    rw [World.cell?_setCell_other _ _ _ _ (by intro hh; injection hh with _ h2; omega), h.saf j hj]
    by_cases e : j = k
    · subst e
      rw [fdAt_set l j _ hj]
    · rw [fdAt_set_ne l k j _ hj e]
  · rw [World.frozen?_setCell]
    exact h.free j
/-- Number k gets a new value. -/
theorem RowF.setV {w : World} {b : Nat} {l : List Fd} (h : RowF w b l) (k : Nat) (d : ByteArray) (hk : k < l.length) : RowF (w.setCell ⟨b, k * 2 + 1, none⟩ (.string d)) b (l.set k ((fdAt l k).1, d)) := by
  refine ⟨fun j hj => ?_, fun j hj => ?_, fun j => ?_, by simpa [World.setCell] using h.lt⟩
  · rw [List.length_set] at hj
    rw [World.cell?_setCell_other _ _ _ _ (by intro hh; injection hh with _ h2; omega), h.dat j hj]
    by_cases e : j = k
    · subst e
      rw [fdAt_set l j _ hj]
    · rw [fdAt_set_ne l k j _ hj e]
  · rw [List.length_set] at hj
    by_cases e : j = k
    · subst e
      rw [fdAt_set l j _ hj, World.cell?_setCell_same _ _ _ (h.saf j hj)]
    · rw [fdAt_set_ne l k j _ hj e, World.cell?_setCell_other _ _ _ _ (by intro hh; injection hh with _ h2; omega), h.saf j hj]
  · rw [World.frozen?_setCell]
    exact h.free j
set_option maxHeartbeats 2000000 in
theorem markFieldS_any (v : Value) (l : List Fd) (w : World) (hv : SlF w v l) (hm : l.length ≤ 1048576) :
    Calls Tryd.prog 38 #[v, .int .i64 1] w fun e w' => e = .returned (.int .i64 (1 + 2 * (l.length : Int))) ∧ SlF w' v (marksF l.length) ∧ w.grownBy w' v.ownBlock := by
  obtain ⟨a, c0, rfl⟩ := hv.form
  generalize hn : l.length = n at *
  have HN := hideB2 hn
  have HV := hideB2 hv
  clear hn hv
  go_enter Tryd.func38, Tryd.ntmps38
  go_wp2
  go_loopw [1, 5] (fun kk i wr => ∃ k : Nat, k ≤ n ∧ i = .int .i64 k ∧ kk = .int .i64 (1 + 2 * (k : Int)) ∧ SlF wr (.slice a n c0) (marksF k ++ l.drop k) ∧ w.grownBy wr (Value.slice a n c0).ownBlock) (fun _ i _ => n - (intOf i).toNat)
  case atStart => exact ⟨0, Nat.zero_le _, rfl, rfl, by simpa [marksF] using HV.out, grown_refl _ _⟩
  case round =>
    obtain ⟨k, hk, rfl, rfl, hs, hgr⟩ := hrel
    have hlen : (marksF k ++ l.drop k).length = n := by rw [List.length_append, marksF_len, List.length_drop, HN.out]; omega
    by_cases hlt : k < n
    · obtain ⟨b, rfl, hr⟩ := hs.row (by rw [hlen]; omega)
      have HNX := hideB2 (marksF_next l k (by rw [HN.out]; exact hlt))
      have HLN := hideB2 hlen
      have HR := hideB2 hr
      have HGR := hideB2 hgr
      clear hr hgr hs hlen
      have e0 : 1 + 2 * (k : Int) = ((2 * k + 1 : Nat) : Int) := by omega
      rw [e0]
      go_wp2_with fail
      refine (markText_any (2 * k + 1) _ (by omega) (by omega)).mono ?_
      rintro e w2 ⟨rfl, hb2⟩
      have hr2 := HR.out.keep hb2
      have hd0 := hr2.dat k (by rw [HLN.out]; exact hlt)
      have hf0 := hr2.free (k * 2)
      have R1 := hr2.setN k (mtB (2 * k + 1)) (by rw [HLN.out]; exact hlt)
      have G1 := grown_set (grown_then HGR.out hb2) (k * 2) (.string (mtB (2 * k + 1)))
      have HR1 := hideB2 R1
      have HG1 := hideB2 G1
      clear R1 G1 hr2 hb2 HR HGR e0
      generalize hm1 : mtB (2 * k + 1) = mt at *
      have HM1 := hideB2 hm1
      clear hm1
      have e1 : IntKind.i64.wrap (((2 * k + 1 : Nat) : Int) + 1) = ((2 * k + 2 : Nat) : Int) := by rw [IntKind.wrap_i64]; omega
      go_wp2_with fail
      have e2 : ((2 * k + 1 : Nat) : Int) + 1 = ((2 * k + 2 : Nat) : Int) := by omega
      first | rw [e2] | skip
      refine (markText_any (2 * k + 2) _ (by omega) (by omega)).mono ?_
      rintro e w3 ⟨rfl, hb3⟩
      have hr3 := HR1.out.keep hb3
      have hlen3 : ((marksF k ++ l.drop k).set k (mt, (fdAt (marksF k ++ l.drop k) k).2)).length = n := by rw [List.length_set]; exact HLN.out
      have hd1 := hr3.saf k (by rw [hlen3]; exact hlt)
      have hf1 := hr3.free (k * 2 + 1)
      have R2 := hr3.setV k (mtB (2 * k + 2)) (by rw [hlen3]; exact hlt)
      rw [fdAt_set _ k _ (by rw [HLN.out]; exact hlt), List.set_set] at R2
      simp only at R2
      rw [HNX.out] at R2
      have HR2 := hideB2 R2
      have HG2 := hideB2 (grown_set (grown_then HG1.out hb3) (k * 2 + 1) (.string (mtB (2 * k + 2))))
      clear R2 hr3 hb3 HR1 HG1 HNX HM1 hd0 hf0
      generalize (fdAt ((marksF k ++ l.drop k).set k (mt, (fdAt (marksF k ++ l.drop k) k).2)) k).2 = y1 at *
      generalize mtB (2 * k + 2) = mt2 at *
      go_wp2
      refine ⟨⟨k + 1, by omega, by go_num, by simp; omega, ?_, HG2.out⟩, by simp [intOf]; omega⟩
      exact HR2.out.sl (by rw [List.length_append, marksF_len, List.length_drop, HN.out]; omega) c0
    · obtain rfl : k = n := by omega
      have hsn : SlF wr (.slice a k c0) (marksF k) := by
        have hh := hs
        rwa [List.drop_of_length_le (by rw [HN.out]; exact Nat.le_refl _), List.append_nil] at hh
      go_wp2
      go_ret
      exact ⟨rfl, hsn, hgr⟩
set_option maxHeartbeats 2000000 in
theorem heldFieldS_any (v : Value) (n : Nat) (w : World) (hv : SlF w v (marksF n)) (hm : n ≤ 1048576) :
    Calls Tryd.prog 39 #[v, .int .i64 1] w fun e w' => e = .returned (.int .i64 (1 + 2 * (n : Int))) ∧ Below w.heap.size w w' := by
  obtain ⟨a, c0, rfl⟩ := hv.form
  have HV := hideB2 hv
  rw [marksF_len] at *
  clear hv
  go_enter Tryd.func39, Tryd.ntmps39
  go_wp2
  go_loopw [1, 5] (fun kk i wr => ∃ k : Nat, k ≤ n ∧ i = .int .i64 k ∧ kk = .int .i64 (1 + 2 * (k : Int)) ∧ Below w.heap.size w wr) (fun _ i _ => n - (intOf i).toNat)
  case atStart => exact ⟨0, Nat.zero_le _, rfl, rfl, Below.refl _ _⟩
  case round =>
    obtain ⟨k, hk, rfl, rfl, hb⟩ := hrel
    by_cases hlt : k < n
    · obtain ⟨b, rfl, hr⟩ := HV.out.row (by rw [marksF_len]; omega)
      have hr1 := hr.keep hb
      have p0 := hr1.dat k (by rw [marksF_len]; exact hlt)
      have p1 := hr1.saf k (by rw [marksF_len]; exact hlt)
      rw [marksF_at n k hlt] at p0 p1
      simp only at p0 p1
      have e0 : 1 + 2 * (k : Int) = ((2 * k + 1 : Nat) : Int) := by omega
      rw [e0]
      have z0 := fun V => grw_some p0 V
      have z1 := fun V => grw_some p1 V
      have HMT := hideB2 (fun V : Gr wr => markText_any (2 * k + 1) (grw wr V) (by omega) (by omega))
      have HMT2 := hideB2 (fun W : World => markText_any (2 * k + 2) W (by omega) (by omega))
      have HB := hideB2 hb
      generalize mtB (2 * k + 1) = mt at *
      generalize mtB (2 * k + 2) = mt2 at *
      have hmt : (mt.toList == mt.toList) = true := by simp
      have hmt2 : (mt2.toList == mt2.toList) = true := by simp
      clear hr hr1 hb e0 p0 p1
      go_wp2
      refine wp_region_grow ?_ ?_ ?_
      · kernel_rfl
      · kernel_rfl
      · intro hne
        repeat (go_big_quiet_step ((go_at_call 68; exact grow_call (HMT.out _))))
        refine wpQuiet_nil ?_
        rintro _ ⟨V, rfl⟩
        have hbb := hideB2 (below_then HB.out (grw_below wr V))
        have y1 := z1 V
        clear z0 z1 HMT HB
        generalize grw wr V = w3 at *
        have u1 := fun V => grw_some y1 V
        have e1 : IntKind.i64.wrap (((2 * k + 1 : Nat) : Int) + 1) = ((2 * k + 2 : Nat) : Int) := by rw [IntKind.wrap_i64]; omega
        go_wp2
        have e2 : ((2 * k + 1 : Nat) : Int) + 1 = ((2 * k + 2 : Nat) : Int) := by omega
        first | rw [e2] | skip
        refine wp_region_grow ?_ ?_ ?_
        · kernel_rfl
        · kernel_rfl
        · intro hne
          repeat (go_big_quiet_step ((go_at_call 68; exact grow_call (HMT2.out _))))
          refine wpQuiet_nil ?_
          rintro _ ⟨V, rfl⟩
          have hbc := hideB2 (below_then hbb.out (grw_below w3 V))
          clear u1 hbb HMT2
          generalize grw w3 V = w4 at *
          go_wp2
          exact ⟨⟨k + 1, by omega, by go_num, by simp; omega, hbc.out⟩, by simp [intOf]; omega⟩
    · obtain rfl : k = n := by omega
      go_wp2
      go_ret
      exact ⟨rfl, hb⟩
theorem SlF.own_lt {w : World} {s : Value} {l : List Fd} (h : SlF w s l) {g : Nat} (hg : s.ownBlock = some g) : g < w.heap.size := by
  rcases h with ⟨rfl, _⟩ | ⟨b, cap, rfl, hr⟩
  · cases hg
  · injection hg with hg; subst hg; exact hr.lt
theorem RowF.gb {w w' : World} {b : Nat} {l : List Fd} {r : Option Nat} (h : RowF w b l) (k : w.grownBy w' r) (hne : r ≠ some b) : RowF w' b l := by
  have hb : w'.heap[b]? = w.heap[b]? := k.block b h.lt (fun e => hne e.symm)
  refine ⟨fun j hj => ?_, fun j hj => ?_, fun j => ?_, Nat.lt_of_lt_of_le h.lt k.size⟩
  · exact (World.cell?_of_block (w := w) hb).trans (h.dat j hj)
  · exact (World.cell?_of_block (w := w) hb).trans (h.saf j hj)
  · have hf := h.free j
    unfold World.frozen? at *
    rw [hb]; exact hf
theorem SlF.gb {w w' : World} {s : Value} {l : List Fd} {r : Option Nat} (h : SlF w s l) (k : w.grownBy w' r) (hne : ∀ g, s.ownBlock = some g → r ≠ some g) : SlF w' s l := by
  rcases h with h | ⟨b, cap, rfl, hr⟩
  · exact .inl h
  · exact .inr ⟨b, cap, rfl, hr.gb k (hne b rfl)⟩
end Go.Proofs.YtaelopjalfapgabDoor
