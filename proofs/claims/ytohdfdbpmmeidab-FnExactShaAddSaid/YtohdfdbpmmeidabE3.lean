/-
  What the exact laws do with digests under way: a copy, a comparison, marks, a size.
-/
import Derived.Test.YtohdfdbpmmeidabE1
import Derived.Test.YtohdfdbpmmeidabD12
namespace Go.Proofs.Ytohdfdbpmmeidab
set_option linter.unusedVariables false
set_option linter.unusedSimpArgs false
open Go.RowKit
theorem Blk.c3 {w : World} {g : Nat} {x y z : Value} {t : TypeId} (h : Blk w g #[x, y, z] t) : w.cell? ⟨g, 0, none⟩ = some x ∧ w.cell? ⟨g, 1, none⟩ = some y ∧ w.cell? ⟨g, 2, none⟩ = some z := ⟨h.cell 0, h.cell 1, h.cell 2⟩
theorem Blk.kb {p : Nat} {w w' : World} {b : Nat} {c : Array Value} {t : TypeId} (h : Blk w b c t) (k : Kb p w w') (hne : b ≠ p) : Blk w' b c t := by
  unfold Blk at *
  rw [k.block b (Array.getElem?_eq_some_iff.1 h).1 (fun e => by injection e with e; omega)]
  exact h
set_option maxHeartbeats 1000000 in
theorem szIntS_any (a : Option Addr) (len cap : Nat) (w : World) (hl : len ≤ maxLen) :
    Calls Try.prog 30 #[.slice a len cap, .int .i64 1048576] w fun e w' => e = .returned (.int .i64 (if len ≤ 1048576 then 1048576 - (len : Int) else -1)) ∧ w' = w := by
  unfold maxLen at hl
  by_cases h : len ≤ 1048576
  · rw [if_pos h]
    go_enter Try.func30, Try.ntmps30
    go_wp2
    go_ret
    exact ⟨rfl, rfl⟩
  · rw [if_neg h]
    have h' : 1048576 - (len : Int) < 0 := by omega
    go_enter Try.func30, Try.ntmps30
    go_wp2
    go_ret
    exact ⟨rfl, rfl⟩
/-- Small enough for the law to look at. -/
def small (len rl : Nat) : Prop := len + rl ≤ 1048576
set_option maxHeartbeats 1000000 in
theorem szSha_any (a : Option Addr) (len cap : Nat) (r : ByteArray) (n : Int) (w : World) (hl : len ≤ maxLen) (hr : r.size ≤ maxLen) :
    Calls Try.prog 9 #[.agg #[.slice a len cap, .string r, .int .i64 n], .int .i64 1048576] w fun e w' => e = .returned (.int .i64 (if len + r.size ≤ 1048576 then 1048576 - (len : Int) - (r.size : Int) else -1)) ∧ Below w.heap.size w w' := by
  have hr' := hr
  unfold maxLen at hr'
  have HB := hideB2 (below_a1 w (.cells #[.slice a len cap, .string r, .int .i64 n] 24))
  by_cases h : len ≤ 1048576
  · by_cases h2 : len + r.size ≤ 1048576
    · rw [if_pos h2]
      go_enter Try.func9, Try.ntmps9
      go_wp2_with fail
      refine (szIntS_any a len cap _ hl).mono ?_
      rintro e w1 ⟨rfl, rfl⟩
      rw [if_pos h]
      go_wp2
      go_ret
      exact ⟨rfl, HB.out⟩
    · rw [if_neg h2]
      have h3 : 1048576 - (len : Int) - (r.size : Int) < 0 := by omega
      go_enter Try.func9, Try.ntmps9
      go_wp2_with fail
      refine (szIntS_any a len cap _ hl).mono ?_
      rintro e w1 ⟨rfl, rfl⟩
      rw [if_pos h]
      go_wp2
      go_ret
      exact ⟨rfl, HB.out⟩
  · rw [if_neg (by omega)]
    go_enter Try.func9, Try.ntmps9
    go_wp2_with fail
    refine (szIntS_any a len cap _ hl).mono ?_
    rintro e w1 ⟨rfl, rfl⟩
    rw [if_neg h]
    go_wp2
    go_ret
    exact ⟨rfl, HB.out⟩
theorem Blk.oth3 {w : World} {b g : Nat} {c : Array Value} {t : TypeId} (h : Blk w b c t) (hne : g ≠ b) (x y z : Value) : Blk (((w.setCell ⟨g, 0, none⟩ x).setCell ⟨g, 1, none⟩ y).setCell ⟨g, 2, none⟩ z) b c t := ((h.other hne 0 x).other hne 1 y).other hne 2 z
theorem RowZ.oth3 {w : World} {b g : Nat} {l : List Int} (h : RowZ w b l) (hne : g ≠ b) (x y z : Value) : RowZ (((w.setCell ⟨g, 0, none⟩ x).setCell ⟨g, 1, none⟩ y).setCell ⟨g, 2, none⟩ z) b l := ((h.other hne 0 x).other hne 1 y).other hne 2 z
set_option maxHeartbeats 2000000 in
theorem toSha_any (a : Option Addr) (len cap : Nat) (xs : List Int) (r : ByteArray) (n : Int) (w : World) (hx : ArgZ w a len xs) (hl : len ≤ 1048576) :
    Calls Try.prog 11 #[.agg #[.slice a len cap, .string r, .int .i64 n]] w fun e w' => ∃ b, e = .returned (shaV b len len r n) ∧ w.heap.size ≤ b ∧ RowZ w' b xs ∧ Below w.heap.size w w' := by
  go_enter Try.func11, Try.ntmps11
  go_wp2_with fail
  refine (toIntS_any a len cap xs _ (hx.later (below_a3 w _ _ _)) hl).mono ?_
  rintro e w1 ⟨rfl, hr1, hb1⟩
  have K0 := (blk_a w #[.slice a len cap, .string r, .int .i64 n] 24 (.cells #[.slice none 0 0, .string ⟨#[]⟩, .int .i64 0] 27) (.cells #[.slice none 0 0, .string ⟨#[]⟩, .int .i64 0] 27)).later hb1
  have K1 := (blk_b w #[.slice none 0 0, .string ⟨#[]⟩, .int .i64 0] 27 (.cells #[.slice a len cap, .string r, .int .i64 n] 24) (.cells #[.slice none 0 0, .string ⟨#[]⟩, .int .i64 0] 27)).later hb1
  have K2 := (blk_c w #[.slice none 0 0, .string ⟨#[]⟩, .int .i64 0] 27 (.cells #[.slice a len cap, .string r, .int .i64 n] 24) (.cells #[.slice none 0 0, .string ⟨#[]⟩, .int .i64 0] 27)).later hb1
  have s1 : w1.cell? ⟨w.heap.size, 1, none⟩ = some (.string r) := K0.cell 1
  have s2 : w1.cell? ⟨w.heap.size, 2, none⟩ = some (.int .i64 n) := K0.cell 2
  have d0 : w1.cell? ⟨w.heap.size + 1 + 1, 0, none⟩ = some (.slice none 0 0) := K2.cell 0
  have d1 : w1.cell? ⟨w.heap.size + 1 + 1, 1, none⟩ = some (.string ⟨#[]⟩) := K2.cell 1
  have d2 : w1.cell? ⟨w.heap.size + 1 + 1, 2, none⟩ = some (.int .i64 0) := K2.cell 2
  have f0 := K2.free 0
  have f1 := K2.free 1
  have f2 := K2.free 2
  have t0 : w1.cell? ⟨w.heap.size + 1, 0, none⟩ = some (.slice none 0 0) := K1.cell 0
  have t1 : w1.cell? ⟨w.heap.size + 1, 1, none⟩ = some (.string ⟨#[]⟩) := K1.cell 1
  have t2 : w1.cell? ⟨w.heap.size + 1, 2, none⟩ = some (.int .i64 0) := K1.cell 2
  have g0 := K1.free 0
  have g1 := K1.free 1
  have g2 := K1.free 2
  have HK1 := hideB2 K1
  have HR := hideB2 hr1
  have HB := hideB2 (below_then (below_a3 w _ _ _) hb1)
  have hsz : (((w.alloc (.cells #[.slice a len cap, .string r, .int .i64 n] 24)).alloc (.cells #[.slice none 0 0, .string ⟨#[]⟩, .int .i64 0] 27)).alloc (.cells #[.slice none 0 0, .string ⟨#[]⟩, .int .i64 0] 27)).heap.size = w.heap.size + 1 + 1 + 1 := by simp
  rw [hsz] at HR ⊢
  clear K0 K1 K2 hr1 hb1 hsz hx
  go_wp2
  refine bodyPost_ret (results_cellS rfl _ _ _ rfl ((HK1.out.oth3 (g := w.heap.size + 1 + 1) (by omega) _ _ _).set3 _ _ _) Try.underlying27 Try.infoSha) rfl ⟨w.heap.size + 1 + 1 + 1, rfl, by omega, ?_, ?_⟩
  · exact (HR.out.oth3 (g := w.heap.size + 1 + 1) (by omega) _ _ _).oth3 (g := w.heap.size + 1) (by omega) _ _ _
  · exact below_set3 (below_set3 HB.out (by omega) _ _ _) (by omega) _ _ _
set_option maxHeartbeats 2000000 in
theorem eqSha_same (va vb : Value) (xs : List Int) (r : ByteArray) (n : Int) (w : World) (ha : SlZ w va xs) (hb : SlZ w vb xs) (hm : xs.length ≤ 1048576) (hr : r.size ≤ maxLen) :
    Calls Try.prog 13 #[.agg #[va, .string r, .int .i64 n], .agg #[vb, .string r, .int .i64 n]] w fun e w' => e = .returned (.bool true) ∧ Below w.heap.size w w' := by
  have h1 : ∀ v xs, SlZ w v xs → v.oneCell' = true := by
    intro v xs h
    rcases h with ⟨rfl, _⟩ | ⟨b, cap, rfl, _⟩ <;> rfl
  have o1 := h1 va xs ha
  have o2 := h1 vb xs hb
  clear h1
  have HAL := hideB2 (ha.later (below_a2 w (.cells #[va, .string r, .int .i64 n] 27) (.cells #[vb, .string r, .int .i64 n] 27)))
  have HBL := hideB2 (hb.later (below_a2 w (.cells #[va, .string r, .int .i64 n] 27) (.cells #[vb, .string r, .int .i64 n] 27)))
  have HB := hideB2 (below_a2 w (.cells #[va, .string r, .int .i64 n] 27) (.cells #[vb, .string r, .int .i64 n] 27))
  clear ha hb
  go_enter Try.func13, Try.ntmps13
  go_wp2_with fail
  refine (eqIntS_same va vb xs _ HAL.out HBL.out hm).mono ?_
  rintro e w1 ⟨rfl, m, rfl⟩
  go_wp2
  go_ret
  exact ⟨rfl, below_drewN HB.out m⟩
set_option maxHeartbeats 1000000 in
theorem markSha_row (b n cap : Nat) (xs : List Int) (r : ByteArray) (z : Int) (w : World) (hr : RowZ w b xs) (hl : xs.length = n) (hn : n ≤ 1048576) :
    Calls Try.prog 16 #[shaV b n cap r z, .int .i64 1] w fun e w' => e = .returned (.int .i64 (1 + (n : Int))) ∧ RowZ w' b (marks 1 n) ∧ Kb b w w' := by
  unfold shaV
  have HR := hideB2 (hr.keep (below_a1 w (.cells #[.slice (some ⟨b, 0, none⟩) n cap, .string r, .int .i64 z] 27)))
  have HK : Hid (Kb b w (w.alloc (.cells #[.slice (some ⟨b, 0, none⟩) n cap, .string r, .int .i64 z] 27))) := World.grownBy_alloc w _ _
  clear hr
  go_enter Try.func16, Try.ntmps16
  go_wp2_with fail
  refine (markIntS_row b n cap xs _ HR.out hl hn).mono ?_
  rintro e w1 ⟨rfl, h1, k1⟩
  go_wp2
  go_ret
  exact ⟨rfl, h1, World.grownBy.trans HK.out k1⟩
set_option maxHeartbeats 1000000 in
theorem markSha_nil (w : World) :
    Calls Try.prog 16 #[shaZ, .int .i64 1] w fun e w' => e = .returned (.int .i64 1) ∧ Below w.heap.size w w' := by
  unfold shaZ
  have HB := hideB2 (below_a1 w (.cells #[.slice none 0 0, .string ⟨#[]⟩, .int .i64 0] 27))
  go_enter Try.func16, Try.ntmps16
  go_wp2_with fail
  refine (markIntS_nil _).mono ?_
  rintro e w1 ⟨rfl, rfl⟩
  go_wp2
  go_ret
  exact ⟨rfl, HB.out⟩
set_option maxHeartbeats 1000000 in
theorem heldSha_row (b n cap : Nat) (r : ByteArray) (z : Int) (w : World) (hr : RowZ w b (marks 1 n)) (hn : n ≤ 1048576) :
    Calls Try.prog 17 #[shaV b n cap r z, .int .i64 1] w fun e w' => e = .returned (.int .i64 (1 + (n : Int))) ∧ Below w.heap.size w w' := by
  unfold shaV
  have HR := hideB2 (hr.keep (below_a1 w (.cells #[.slice (some ⟨b, 0, none⟩) n cap, .string r, .int .i64 z] 27)))
  have HB := hideB2 (below_a1 w (.cells #[.slice (some ⟨b, 0, none⟩) n cap, .string r, .int .i64 z] 27))
  clear hr
  go_enter Try.func17, Try.ntmps17
  go_wp2_with fail
  refine (heldIntS_row b n cap _ HR.out hn).mono ?_
  rintro e w1 ⟨rfl, rfl⟩
  go_wp2
  go_ret
  exact ⟨rfl, HB.out⟩
set_option maxHeartbeats 1000000 in
theorem heldSha_nil (w : World) :
    Calls Try.prog 17 #[shaZ, .int .i64 1] w fun e w' => e = .returned (.int .i64 1) ∧ Below w.heap.size w w' := by
  unfold shaZ
  have HB := hideB2 (below_a1 w (.cells #[.slice none 0 0, .string ⟨#[]⟩, .int .i64 0] 27))
  go_enter Try.func17, Try.ntmps17
  go_wp2_with fail
  refine (heldIntS_nil _).mono ?_
  rintro e w1 ⟨rfl, rfl⟩
  go_wp2
  go_ret
  exact ⟨rfl, HB.out⟩
end Go.Proofs.Ytohdfdbpmmeidab
