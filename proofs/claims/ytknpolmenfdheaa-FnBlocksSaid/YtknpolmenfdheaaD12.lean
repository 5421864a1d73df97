/-
  The walks over chapter 3: ShaAdd (impl).
-/
import Derived.Test.YtknpolmenfdheaaD11
namespace Go.Proofs.Ytknpolmenfdheaa
set_option linter.unusedVariables false
set_option linter.unusedSimpArgs false
open Go.RowKit
/-- The zero value of a digest under way. -/
def shaZ : Value := .agg #[.slice none 0 0, .string ⟨#[]⟩, .int .i64 0]
/-- May b come in? -/
def addQ (xs : List Int) (rl : Nat) (size : Int) (bl : Nat) : Bool := shaQ xs rl size && decide ((bl : Int) ≤ 999999999999999 - size)
theorem results_cellS {fn : Func} {p : Tmp} {ty : TypeId} (h : fn.results = #[.cell p ty]) (tmps : Array Value) (P : Program) (w : World) {b : Nat} {c : Array Value} {t : TypeId} {fs : Array Field} (hp : tmps.getD p undef = .pointer (some ⟨b, 0, none⟩)) (hB : Blk w b c t)
    (hu : P.underlying ty = some (.struct fs)) (hi : (P.info? ty).map (·.size) = some c.size) : (results fn tmps).run P w = .ok (.agg c) w := by
  have hrun := run_loadVar_row (P := P) w b t ty c (0, 0) _ hB hu rfl hi
  have ha : (asAddr (tmps.getD p undef)).run P w = .ok ⟨b, 0, none⟩ w := by rw [hp]; rfl
  have he : (results fn tmps).run P w = ((asAddr (tmps.getD p undef)).run P w).andThen fun a w₁ => (loadVar ty a).run P w₁ := by
    simp only [results, h]
    simp [Sem.run_bind, Result.andThen]
  rw [he, ha]
  exact hrun
theorem Try.infoSha : (Try.prog.info? 27).map (·.size) = some 3 := by kernel_rfl
theorem Blk.set3 {w : World} {g : Nat} {a b c : Value} {t : TypeId} (h : Blk w g #[a, b, c] t) (x y z : Value) : Blk (((w.setCell ⟨g, 0, none⟩ x).setCell ⟨g, 1, none⟩ y).setCell ⟨g, 2, none⟩ z) g #[x, y, z] t := ((h.set 0 x).set 1 y).set 2 z
theorem below_set3 {B g : Nat} {w0 w : World} (h : Below B w0 w) (hg : B ≤ g) (x y z : Value) : Below B w0 (((w.setCell ⟨g, 0, none⟩ x).setCell ⟨g, 1, none⟩ y).setCell ⟨g, 2, none⟩ z) :=
  ((h.setCell (p := ⟨g, 0, none⟩) hg x).setCell (p := ⟨g, 1, none⟩) hg y).setCell (p := ⟨g, 2, none⟩) hg z
theorem RowN.other {w : World} {b b' : Nat} {l : List Nat} (h : RowN w b l) (hne : b' ≠ b) (k : Nat) (v : Value) : RowN (w.setCell ⟨b', k, none⟩ v) b l := (h.z.other hne k v).n
theorem RowN.set3 {w : World} {b g : Nat} {l : List Nat} (h : RowN w b l) (hne : g ≠ b) (x y z : Value) : RowN (((w.setCell ⟨g, 0, none⟩ x).setCell ⟨g, 1, none⟩ y).setCell ⟨g, 2, none⟩ z) b l := ((h.other hne 0 x).other hne 1 y).other hne 2 z
set_option maxHeartbeats 2000000 in
theorem ShaAdd_no (c n cap : Nat) (xs : List Int) (r b : ByteArray) (size : Int) (w : World) (hr : RowZ w c xs) (hn : xs.length = n) (hm : n ≤ maxLen) (hs : r.size ≤ maxLen) (hb : b.size ≤ maxLen) (h : addQ xs r.size size b.size = false) :
    Calls Try.prog 7 #[shaV c n cap r size, .string b] w fun e w' => e = .returned shaZ ∧ Below w.heap.size w w' := by
  have hb' := hb
  unfold maxLen at hb'
  unfold shaV
  go_enter Try.func7, Try.ntmps7
  go_wp2_with fail
  refine (ShaOk_any c n cap xs r size _ (hr.keep (below_a2 _ _ _)) hn hm hs).mono ?_
  rintro e w1 ⟨rfl, hb1⟩
  have K0 := (blk2_a w #[.slice (some ⟨c, 0, none⟩) n cap, .string r, .int .i64 size] 27 (.cells #[.slice none 0 0, .string ⟨#[]⟩, .int .i64 0] 27)).later hb1
  have K1 := (blk2_b w #[.slice none 0 0, .string ⟨#[]⟩, .int .i64 0] 27 (.cells #[.slice (some ⟨c, 0, none⟩) n cap, .string r, .int .i64 size] 27)).later hb1
  have s2 : w1.cell? ⟨w.heap.size, 2, none⟩ = some (.int .i64 size) := K0.cell 2
  have c0 : w1.cell? ⟨w.heap.size + 1, 0, none⟩ = some (.slice none 0 0) := K1.cell 0
  have c1 : w1.cell? ⟨w.heap.size + 1, 1, none⟩ = some (.string ⟨#[]⟩) := K1.cell 1
  have c2 : w1.cell? ⟨w.heap.size + 1, 2, none⟩ = some (.int .i64 0) := K1.cell 2
  have f0 := K1.free 0
  have f1 := K1.free 1
  have f2 := K1.free 2
  have HB := hideB2 (below_then (below_a2 w _ _) hb1)
  have HK := hideB2 K1
  clear K0 K1 hb1 hr hn
  cases h1 : shaQ xs r.size size with
  | false =>
    go_wp2
    exact bodyPost_ret (results_cellS rfl _ _ _ rfl (HK.out.set3 _ _ _) Try.underlying27 Try.infoSha) rfl ⟨rfl, below_set3 HB.out (Nat.le_succ _) _ _ _⟩
  | true =>
    obtain ⟨_, ⟨q1, q2⟩, _⟩ := shaQ_iff.1 h1
    have hlt : 999999999999999 - size < (b.size : Int) := by
      unfold addQ at h
      rw [h1, Bool.true_and, decide_eq_false_iff_not] at h
      omega
    clear h
    go_wp2
    exact bodyPost_ret (results_cellS rfl _ _ _ rfl (HK.out.set3 _ _ _) Try.underlying27 Try.infoSha) rfl ⟨rfl, below_set3 HB.out (Nat.le_succ _) _ _ _⟩
set_option maxHeartbeats 4000000 in
theorem ShaAdd_any (c cap : Nat) (h : List Nat) (r b : ByteArray) (size : Nat) (w : World) (hr : RowN w c h) (hh : Five h) (hsz : r.size = size % 64) (hb : b.size + size ≤ 999999999999999) :
    Calls Try.prog 7 #[shaV c 5 cap r (size : Int), .string b] w fun e w' => ∃ g, e = .returned (shaV g 5 5 ⟨(inR (r.data.toList ++ b.data.toList)).toArray⟩ ((size + b.size : Nat) : Int)) ∧ w.heap.size ≤ g ∧ RowN w' g (inH h (r.data.toList ++ b.data.toList)) ∧ Below w.heap.size w w' := by
  have hQ : shaQ (nz h) r.size (size : Int) = true := shaQ_iff.2 ⟨fiveZ_of hh, ⟨by omega, by omega⟩, by omega⟩
  have hr64 : r.size < 64 := by omega
  have hbm : b.size ≤ maxLen := by unfold maxLen; omega
  have hge : ¬ 999999999999999 - (size : Int) < (b.size : Int) := by omega
  have HSZ := hideB2 hsz
  clear hsz
  unfold shaV
  go_enter Try.func7, Try.ntmps7
  go_wp2_with fail
  refine (ShaOk_any c 5 cap (nz h) r size _ (hr.z.keep (below_a2 _ _ _)) (by rw [nz_len]; exact hh.1) (by unfold maxLen; omega) (by unfold maxLen; omega)).mono ?_
  rintro e w1 ⟨rfl, hb1⟩
  have K0 := (blk2_a w #[.slice (some ⟨c, 0, none⟩) 5 cap, .string r, .int .i64 (size : Int)] 27 (.cells #[.slice none 0 0, .string ⟨#[]⟩, .int .i64 0] 27)).later hb1
  have K1 := (blk2_b w #[.slice none 0 0, .string ⟨#[]⟩, .int .i64 0] 27 (.cells #[.slice (some ⟨c, 0, none⟩) 5 cap, .string r, .int .i64 (size : Int)] 27)).later hb1
  have s0 : w1.cell? ⟨w.heap.size, 0, none⟩ = some (.slice (some ⟨c, 0, none⟩) 5 cap) := K0.cell 0
  have s2 : w1.cell? ⟨w.heap.size, 2, none⟩ = some (.int .i64 (size : Int)) := K0.cell 2
  have hbw1 := below_then (below_a2 w _ _) hb1
  go_wp2_with fail
  refine (fiveOf_any c 5 cap (nz h) _ (hr.z.keep hbw1) (by rw [nz_len]; exact hh.1) (by unfold maxLen; omega)).mono ?_
  rintro e w2 ⟨rfl, hb2⟩
  rw [fiveW_nz hh]
  have L0 := K0.later hb2
  have L1 := K1.later hb2
  have hbw2 := below_then hbw1 hb2
  clear s0 s2 hb1 hb2 hbw1 K0 K1
  have M0 := (L0.alloc (.cells #[.int .u32 0, .int .u32 0, .int .u32 0, .int .u32 0, .int .u32 0] 47)).rowOther (b' := w2.heap.size) (c' := cU h) (Nat.ne_of_gt L0.lt)
  have M1 := (L1.alloc (.cells #[.int .u32 0, .int .u32 0, .int .u32 0, .int .u32 0, .int .u32 0] 47)).rowOther (b' := w2.heap.size) (c' := cU h) (Nat.ne_of_gt L1.lt)
  have M5 := hideB2 ((Blk.new w2 #[.int .u32 0, .int .u32 0, .int .u32 0, .int .u32 0, .int .u32 0] 47).row (c' := cU h))
  have MB := hideB2 (below_setRow (hbw2.alloc hbw2.size (.cells #[.int .u32 0, .int .u32 0, .int .u32 0, .int .u32 0, .int .u32 0] 47)) hbw2.size (cU h))
  have HN := hideB2 (Blk.new w2 #[.int .u32 0, .int .u32 0, .int .u32 0, .int .u32 0, .int .u32 0] 47)
  have s1 : ((w2.alloc (.cells #[.int .u32 0, .int .u32 0, .int .u32 0, .int .u32 0, .int .u32 0] 47)).setRow w2.heap.size (cU h)).cell? ⟨w.heap.size, 1, none⟩ = some (.string r) := M0.cell 1
  have HZ5 := hideB2 (Try.size5 hh.1)
  have HS5 := hideB2 (show (v5 0 0 0 0 0).size = (cU h).size by rw [cU_size, hh.1]; rfl)
  have HM0 := hideB2 M0
  have HM1 := hideB2 M1
  have HG5 := hideB2 hbw2.size
  have HQ5 := hideB2 (show w.heap.size + 1 < w2.heap.size from L1.lt)
  clear M0 M1 L0 L1 hbw2
  go_wp2_with (first | (refine wp_storeA rfl rfl _ _ rfl rfl rfl HN.out HZ5.out HS5.out (cU_one h) ?_) | (refine wp_loadA rfl _ rfl rfl M5.out Try.underlying47 HZ5.out ?_))
  generalize (w2.alloc (.cells #[.int .u32 0, .int .u32 0, .int .u32 0, .int .u32 0, .int .u32 0] 47)).setRow w2.heap.size (cU h) = W3 at *
  generalize w2.heap.size = g5 at *
  refine (absorbed_any h r b _ hh hr64 hbm).mono ?_
  rintro e w4 ⟨rfl, hb4⟩
  have hf := inH_five hh (r.data.toList ++ b.data.toList)
  generalize he2 : inH h (r.data.toList ++ b.data.toList) = h2 at *
  generalize he3 : inR (r.data.toList ++ b.data.toList) = r2 at *
  have HE2 := hideB2 he2
  have HE3 := hideB2 he3
  clear he2 he3
  have N5 := hideB2 (M5.out.later hb4)
  have N0 := (HM0.out.later hb4).rowOther (b' := g5) (c' := cU h2) (by have := HQ5.out; omega)
  have N1 := (HM1.out.later hb4).rowOther (b' := g5) (c' := cU h2) (by have := HQ5.out; omega)
  have O5 := hideB2 ((M5.out.later hb4).row (c' := cU h2))
  have OB := hideB2 (below_setRow (MB.out.trans (hb4.mono MB.out.size)) HG5.out (cU h2))
  have HSS := hideB2 (show (cU h).size = (cU h2).size by rw [cU_size, cU_size, hh.1, hf.1])
  have HZ2 := hideB2 (Try.size5 hf.1)
  have HF := hideB2 hf
  have HN0 := hideB2 N0
  have HN1 := hideB2 N1
  clear s1 hb4 hf N0 N1 M5 HM0 HM1 MB
  go_wp2_with (refine wp_storeA rfl rfl _ _ rfl rfl rfl N5.out HZ2.out HSS.out (cU_one h2) ?_)
  clear N5
  generalize w4.setRow g5 (cU h2) = W5 at *
  have s2 : W5.cell? ⟨w.heap.size, 2, none⟩ = some (.int .i64 (size : Int)) := HN0.out.cell 2
  have hwr : IntKind.i64.wrap ((size : Int) + (b.size : Int)) = (size : Int) + (b.size : Int) := by rw [IntKind.wrap_i64]; omega
  go_region_with (go_at_call 26; refine (numbersOf_any g5 5 5 h2 47 _ ?_ HF.out.1 (by omega) HF.out.2).mono ?_; exact O5.out; rintro e w6 ⟨rfl, hrow6, hb6⟩; have p2 : w6.cell? ⟨w.heap.size, 2, none⟩ = some (.int .i64 (size : Int)) := (HN0.out.drew.later hb6).cell 2; have q0 : w6.cell? ⟨w.heap.size + 1, 0, none⟩ = some (.slice none 0 0) := (HN1.out.drew.later hb6).cell 0; have q1 : w6.cell? ⟨w.heap.size + 1, 1, none⟩ = some (.string ⟨#[]⟩) := (HN1.out.drew.later hb6).cell 1; have q2 : w6.cell? ⟨w.heap.size + 1, 2, none⟩ = some (.int .i64 0) := (HN1.out.drew.later hb6).cell 2; have f0 := (HN1.out.drew.later hb6).free 0; have f1 := (HN1.out.drew.later hb6).free 1; have f2 := (HN1.out.drew.later hb6).free 2; have HRW := hideB2 hrow6; have HB6 := hideB2 hb6; clear hrow6 hb6)
  all_goals
    go_wp2
    have hlt1 := HN1.out.lt
    have hzz := OB.out.size
    refine bodyPost_ret (results_cellS rfl _ _ _ rfl ((HN1.out.drew.later HB6.out).set3 _ _ _) Try.underlying27 Try.infoSha) rfl ⟨W5.heap.size, ?_, ?_, ?_, ?_⟩
    · rw [HE3.out, show ((size + b.size : Nat) : Int) = (size : Int) + (b.size : Int) by omega]
    · exact hzz
    · rw [HE2.out]; exact HRW.out.set3 (by simp; omega) _ _ _
    · exact below_set3 (OB.out.drew.trans (HB6.out.mono hzz)) (Nat.le_succ _) _ _ _
end Go.Proofs.Ytknpolmenfdheaa
