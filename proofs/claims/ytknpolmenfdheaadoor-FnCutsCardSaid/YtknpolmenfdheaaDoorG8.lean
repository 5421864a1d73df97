/-
  Chapter 4: what an operation hands back; sync, shorten; Append, Sync, Roll, Cut, Crash (the program's side).
-/
import Derived.Test.YtknpolmenfdheaaDoorG7
import Derived.Deep.DeepCutAuto
namespace Go.Proofs.YtknpolmenfdheaaDoor
set_option linter.unusedVariables false
set_option linter.unusedSimpArgs false
open Go.RowKit
/-- The last segment; another one in its place. -/
def lastG (l : List Sg) : Sg := sgAt l (l.length - 1)
def putLast (l : List Sg) (x : Sg) : List Sg := l.set (l.length - 1) x
theorem putLast_len (l : List Sg) (x : Sg) : (putLast l x).length = l.length := by simp [putLast]
/-- What an operation hands back: a store of its own, or none. -/
def Out (w0 w' : World) (v : Value) (r : Option (List Sg)) (c : Int) : Prop :=
  match r with
  | none => v = noStore
  | some l => ∃ g cap, v = .agg #[.slice (some ⟨g, 0, none⟩) l.length cap, .int .i64 c] ∧ w0.heap.size ≤ g ∧ GB w' g cap l
theorem Out.form {w0 w' : World} {v : Value} {r : Option (List Sg)} {c : Int} (h : Out w0 w' v r c) : ∃ a k cp c', v = .agg #[.slice a k cp, .int .i64 c'] := by
  cases r with
  | none => exact ⟨_, _, _, _, h⟩
  | some l => obtain ⟨g, cap, rfl, _⟩ := h; exact ⟨_, _, _, _, rfl⟩
theorem Out.later {w0 w' w'' : World} {v : Value} {r : Option (List Sg)} {c : Int} (h : Out w0 w' v r c) (k : Below w'.heap.size w' w'') : Out w0 w'' v r c := by
  cases r with
  | none => exact h
  | some l => obtain ⟨g, cap, e, h1, h2⟩ := h; exact ⟨g, cap, e, h1, h2.later k⟩
theorem Out.oth2 {w0 w' : World} {v : Value} {r : Option (List Sg)} {c : Int} {b : Nat} {cs : Array Value} {t : TypeId} (h : Out w0 w' v r c) (hb : Blk w' b cs t) (ht : t ≠ 34) (x y : Value) : Out w0 ((w'.setCell ⟨b, 0, none⟩ x).setCell ⟨b, 1, none⟩ y) v r c := by
  cases r with
  | none => exact h
  | some l => obtain ⟨g, cap, e, h1, h2⟩ := h; exact ⟨g, cap, e, h1, h2.oth2 (h2.ne hb ht) _ _⟩
theorem Out.from {w0 w1 w' : World} {v : Value} {r : Option (List Sg)} {c : Int} (h : Out w1 w' v r c) (k : w0.heap.size ≤ w1.heap.size) : Out w0 w' v r c := by
  cases r with
  | none => exact h
  | some l => obtain ⟨g, cap, e, h1, h2⟩ := h; exact ⟨g, cap, e, Nat.le_trans k h1, h2⟩
/-- The error of a code. -/
def ErrV (ev : Value) (code : Int) : Prop := (code = 0 ∧ ev = .nilIface) ∨ ∃ y, ev = seI code y
theorem store_ne_seg : (25 : TypeId) ≠ 34 := by decide
set_option maxHeartbeats 400000 in
theorem sync_any (g o : Nat) (d : ByteArray) (s0 : Value) (w : World) (h0 : w.cell? ⟨g, o, none⟩ = some (.string d)) (h1 : w.cell? ⟨g, o + 1, none⟩ = some s0) (hf : w.frozen? ⟨g, o + 1, none⟩ = false) :
    Calls Tryd.prog 48 #[.pointer (some ⟨g, o, none⟩)] w fun e w' => e = .returned (.tuple #[]) ∧ w' = w.setCell ⟨g, o + 1, none⟩ (.int .i64 (d.size : Int)) := by
  go_enter Tryd.func48, Tryd.ntmps48
  go_wp2
  go_end0
  exact ⟨rfl, rfl⟩
set_option maxHeartbeats 1000000 in
theorem shorten_any (g o : Nat) (d : ByteArray) (s0 : Value) (n : Int) (w : World) (h0 : w.cell? ⟨g, o, none⟩ = some (.string d)) (h1 : w.cell? ⟨g, o + 1, none⟩ = some s0) (hf0 : w.frozen? ⟨g, o, none⟩ = false) (hf : w.frozen? ⟨g, o + 1, none⟩ = false) (hn : 0 ≤ n) (hd : n ≤ (d.size : Int)) (hm : d.size ≤ 1099511627776) :
    Calls Tryd.prog 47 #[.pointer (some ⟨g, o, none⟩), .int .i64 n] w fun e w' => e = .returned (.tuple #[]) ∧ w' = (w.setCell ⟨g, o, none⟩ (.string (d.extract 0 n.toNat))).setCell ⟨g, o + 1, none⟩ (.int .i64 n) := by
  obtain ⟨k, rfl⟩ : ∃ k : Nat, n = (k : Int) := ⟨n.toNat, by omega⟩
  have hk : k ≤ d.size := by omega
  have hx : (d.extract 0 k).size = k := by simp [ByteArray.size_extract]; omega
  have c0 : (w.setCell ⟨g, o, none⟩ (.string (d.extract 0 k))).cell? ⟨g, o, none⟩ = some (.string (d.extract 0 k)) := World.cell?_setCell_same _ _ _ h0
  have c1 : (w.setCell ⟨g, o, none⟩ (.string (d.extract 0 k))).cell? ⟨g, o + 1, none⟩ = some s0 := by
    rw [World.cell?_setCell_other _ _ _ _ (by intro hh; injection hh with _ h2; omega)]; exact h1
  have g1 : (w.setCell ⟨g, o, none⟩ (.string (d.extract 0 k))).frozen? ⟨g, o + 1, none⟩ = false := by
    rw [World.frozen?_setCell]; exact hf
  have HS := hideB2 (sync_any g o _ s0 _ c0 c1 g1)
  have HX := hideB2 hx
  clear c0 c1 g1 hx
  go_enter Tryd.func47, Tryd.ntmps47
  go_wp2_with fail
  refine HS.out.mono ?_
  rintro e w1 ⟨rfl, rfl⟩
  go_wp2
  go_end0
  refine ⟨rfl, ?_⟩
  rw [Int.toNat_natCast]
theorem storeCode_any (ev : Value) (code : Int) (w : World) (hg : EG w) (h : ErrV ev code) : Calls Tryd.prog 38 #[ev] w fun e w' => e = .returned (.int .i64 code) ∧ Below w.heap.size w w' := by
  rcases h with ⟨rfl, rfl⟩ | ⟨y, rfl⟩
  · exact storeCode_nil w
  · exact storeCode_hit code y w hg
def syncL (l : List Sg) : List Sg := putLast l ((lastG l).1, ((lastG l).1.size : Int))
def syncR (l : List Sg) (c : Int) : Option (List Sg) := if storeQ l c = true then some (syncL l) else none
set_option maxHeartbeats 2000000 in
theorem Sync_any (v : Value) (l : List Sg) (c : Int) (w : World) (hv : SlG w v l) (hl : l.length ≤ 1048576) (ht : totG l ≤ 1099511627776) :
    Calls Tryd.prog 24 #[.agg #[v, .int .i64 c]] w fun e w' => ∃ r, e = .returned r ∧ Out w w' r (syncR l c) c ∧ Below w.heap.size w w' := by
  obtain ⟨a, c0, rfl⟩ := hv.form
  generalize hm : l.length = n at *
  have HN := hideB2 hm
  clear hm
  have A1 := Blk.new (w.alloc (.cells #[.slice a n c0, .int .i64 c] 25)) #[.slice none 0 0, .int .i64 0] 25
  have hsz : (w.alloc (.cells #[.slice a n c0, .int .i64 c] 25)).heap.size = w.heap.size + 1 := by simp
  rw [hsz] at A1
  have ha := below_a2 w (.cells #[.slice a n c0, .int .i64 c] 25) (.cells #[.slice none 0 0, .int .i64 0] 25)
  have HA1 := hideB2 A1
  have HV := hideB2 (hv.later ha)
  clear A1 hsz hv
  go_enter Tryd.func24, Tryd.ntmps24
  go_wp2_with fail
  cases hq : storeQ l c with
  | false =>
    refine (ownStore_no _ l c _ HV.out (by rw [HN.out]; exact hl) ht hq).mono ?_
    rintro e w1 ⟨⟨y, rfl⟩, hb1⟩
    have HR := hideB2 (show syncR l c = none by unfold syncR; rw [hq]; rfl)
    have K1 := (HA1.out.later hb1).alloc (.cells #[.slice none 0 0, .int .i64 0] 25)
    obtain ⟨p0, p1⟩ := K1.c2
    have f0 := K1.free 0
    have f1 := K1.free 1
    have HK := hideB2 K1
    have HB := hideB2 (below_then (below_then ha hb1) (below_a1 w1 (.cells #[.slice none 0 0, .int .i64 0] 25)))
    clear K1 ha hb1 HV HA1 hq
    unfold noStore seI
    go_wp2
    refine bodyPost_ret (results_cellS rfl _ _ _ rfl (HK.out.set2 _ _) Tryd.underlying25 Tryd.infoStore) rfl ⟨_, rfl, by rw [HR.out]; rfl, below_set2 HB.out (by omega) _ _⟩
  | true =>
    obtain ⟨_, _, q1, q2, q3, _⟩ := storeQ_iff.1 hq
    rw [HN.out] at q1 q2
    refine (ownStore_yes _ l c _ HV.out ht hq).mono ?_
    rintro e w1 ⟨g, cap, rfl, hge, hgb, hb1⟩
    rw [HN.out]
    have HR := hideB2 (show syncR l c = some (syncL l) by unfold syncR; rw [hq]; rfl)
    have hsz2 := hb1.size
    simp at hsz2 hge
    have O1 := Blk.new w1 #[.slice (some ⟨g, 0, none⟩) n cap, .int .i64 c] 25
    have K1 := (HA1.out.later hb1).alloc (.cells #[.slice (some ⟨g, 0, none⟩) n cap, .int .i64 c] 25)
    have G1 := hgb.later (below_a1 w1 (.cells #[.slice (some ⟨g, 0, none⟩) n cap, .int .i64 c] 25))
    have hgl := hgb.lt
    have HB := hideB2 (below_then (below_then ha hb1) (below_a1 w1 (.cells #[.slice (some ⟨g, 0, none⟩) n cap, .int .i64 c] 25)))
    have hd0 := G1.row.dat (n - 1) (by rw [HN.out]; omega)
    have hd1 := G1.row.saf (n - 1) (by rw [HN.out]; omega)
    have hf1 := G1.row.free ((n - 1) * 2 + 1)
    have S1 := G1.setS (n - 1) ((sgAt l (n - 1)).1.size : Int) (by rw [HN.out]; omega)
    have HO := hideB2 (show l.set (n - 1) ((sgAt l (n - 1)).1, ((sgAt l (n - 1)).1.size : Int)) = syncL l by unfold syncL putLast lastG; rw [HN.out])
    have h0 := O1.cell 0
    clear ha hb1 HV HA1 hq q3 hgb
    go_wp2_with fail
    generalize hW : w1.alloc (.cells #[.slice (some ⟨g, 0, none⟩) n cap, .int .i64 c] 25) = W at *
    refine (last_any w1.heap.size g n cap c W h0 q1 (by omega)).mono ?_
    rintro e w2 ⟨rfl, m, rfl⟩
    have HS := hideB2 (sync_any g ((n - 1) * 2) _ _ (W.drewN m) hd0 hd1 hf1)
    have HG := hideB2 (S1.drewN m)
    generalize (sgAt l (n - 1)).1 = d at *
    have O2 := (O1.other (b' := g) (by omega) ((n - 1) * 2 + 1) (.int .i64 (d.size : Int))).drewN m
    have K2 := (K1.other (b' := g) (by omega) ((n - 1) * 2 + 1) (.int .i64 (d.size : Int))).drewN m
    have HB2 := hideB2 (below_drewN (HB.out.setCell (p := ⟨g, (n - 1) * 2 + 1, none⟩) (by show w.heap.size ≤ g; omega) (.int .i64 (d.size : Int))) m)
    clear hW HB O1 K1 hd0 hd1 hf1 h0 G1 S1
    go_wp2_with fail
    refine HS.out.mono ?_
    rintro e w3 ⟨rfl, hw3⟩
    have e3 : w3 = (W.setCell ⟨g, (n - 1) * 2 + 1, none⟩ (.int .i64 (d.size : Int))).drewN m := hw3
    rw [← e3] at O2 K2
    have HG3 : Hid (GB w3 g cap (syncL l)) := by
      show GB w3 g cap (syncL l)
      rw [e3, ← HO.out]; exact HG.out
    have HB3 : Hid (Below w.heap.size w w3) := by
      show Below w.heap.size w w3
      rw [e3]; exact HB2.out
    clear hw3 e3 HS HG HB2 HO
    obtain ⟨p0, p1⟩ := O2.c2
    obtain ⟨r0, r1⟩ := K2.c2
    have f0 := K2.free 0
    have f1 := K2.free 1
    have HK2 := hideB2 K2
    clear K2 O2
    go_wp2
    refine bodyPost_ret (results_cellS rfl _ _ _ rfl (HK2.out.set2 _ _) Tryd.underlying25 Tryd.infoStore) rfl ⟨_, rfl, ?_, below_set2 HB3.out (by omega) _ _⟩
    rw [HR.out]
    exact ⟨g, cap, by rw [show (syncL l).length = n by rw [syncL, putLast_len]; exact HN.out], by omega, HG3.out.oth2 (by omega) _ _⟩
end Go.Proofs.YtknpolmenfdheaaDoor
