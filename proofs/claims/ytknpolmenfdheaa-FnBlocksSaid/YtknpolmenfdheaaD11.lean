/-
  The walks over chapter 3: digests under way (impl).
-/
import Derived.Test.YtknpolmenfdheaaD10
import Derived.Test.YtknpolmenfdheaaD7
namespace Go.Proofs.Ytknpolmenfdheaa
set_option linter.unusedVariables false
set_option linter.unusedSimpArgs false
open Go.RowKit
/-- A digest under way, as a value: its words lie at the head of block b. -/
def shaV (b n cap : Nat) (r : ByteArray) (size : Int) : Value := .agg #[.slice (some ⟨b, 0, none⟩) n cap, .string r, .int .i64 size]
/-- Is it one? -/
def shaQ (xs : List Int) (rl : Nat) (size : Int) : Bool := fiveZ xs && (withinB size 0 999999999999999 && ((rl : Int) == size % 64))
theorem shaQ_iff {xs : List Int} {rl : Nat} {size : Int} : shaQ xs rl size = true ↔ fiveZ xs = true ∧ (0 ≤ size ∧ size ≤ 999999999999999) ∧ (rl : Int) = size % 64 := by
  unfold shaQ; rw [Bool.and_eq_true, Bool.and_eq_true, within_iff, beq_iff_eq]
set_option maxHeartbeats 2000000 in
theorem ShaOk_any (b n cap : Nat) (xs : List Int) (r : ByteArray) (size : Int) (w : World) (hr : RowZ w b xs) (hn : xs.length = n) (hm : n ≤ maxLen) (hs : r.size ≤ maxLen) :
    Calls Try.prog 12 #[shaV b n cap r size] w fun e w' => e = .returned (.bool (shaQ xs r.size size)) ∧ Below w.heap.size w w' := by
  unfold maxLen at hs
  unfold shaV shaQ
  have hw5 := fiveW_len xs
  have HS5 := hideB2 (show (v5 0 0 0 0 0).size = (cU (fiveW xs)).size by rw [cU_size, hw5]; rfl)
  have HZ5 := hideB2 (Try.size5 hw5)
  clear hw5
  go_enter Try.func12, Try.ntmps12
  go_wp2_with fail
  refine (fiveOf_any b n cap xs _ (hr.keep (below_a1 _ _)) hn hm).mono ?_
  rintro e w1 ⟨rfl, hb1⟩
  have K1 := (Blk.new w #[.slice (some ⟨b, 0, none⟩) n cap, .string r, .int .i64 size] 27).later hb1
  have K2 := (K1.alloc (.cells #[.int .u32 0, .int .u32 0, .int .u32 0, .int .u32 0, .int .u32 0] 47)).rowOther (b' := w1.heap.size) (c' := cU (fiveW xs)) (Nat.ne_of_gt K1.lt)
  have hbw : Below w.heap.size w w1 := below_then (below_a1 w _) hb1
  have HB := hideB2 (below_setRow (hbw.alloc hbw.size (.cells #[.int .u32 0, .int .u32 0, .int .u32 0, .int .u32 0, .int .u32 0] 47)) hbw.size (cU (fiveW xs)))
  have c1 : ((w1.alloc (.cells #[.int .u32 0, .int .u32 0, .int .u32 0, .int .u32 0, .int .u32 0] 47)).setRow w1.heap.size (cU (fiveW xs))).cell? ⟨w.heap.size, 1, none⟩ = some (.string r) := K2.cell 1
  have c2 : ((w1.alloc (.cells #[.int .u32 0, .int .u32 0, .int .u32 0, .int .u32 0, .int .u32 0] 47)).setRow w1.heap.size (cU (fiveW xs))).cell? ⟨w.heap.size, 2, none⟩ = some (.int .i64 size) := K2.cell 2
  have HN := hideB2 (Blk.new w1 #[.int .u32 0, .int .u32 0, .int .u32 0, .int .u32 0, .int .u32 0] 47)
  clear K1 K2 hbw hb1 hr hn
  have H1 := hideB2 (cU_one (fiveW xs))
  generalize cU (fiveW xs) = c5 at *
  cases h1 : fiveZ xs with
  | false =>
    go_wp2_with (refine wp_storeA rfl rfl _ _ rfl rfl rfl HN.out HZ5.out HS5.out H1.out ?_)
    go_ret
    exact ⟨ret_bool (by rw [h1]; rfl), HB.out⟩
  | true =>
    cases h2 : withinB size 0 999999999999999 with
    | false =>
      go_wp2_with (first | (refine wp_storeA rfl rfl _ _ rfl rfl rfl HN.out HZ5.out HS5.out H1.out ?_) | (go_at_call 32; refine (within_any _ _ _ _).mono ?_; rintro e w' ⟨rfl, rfl⟩))
      go_ret
      exact ⟨ret_bool (by rw [h1, h2]; rfl), HB.out⟩
    | true =>
      obtain ⟨hs0, hs1⟩ := within_iff.1 h2
      cases h3 : ((r.size : Int) == size % 64) with
      | false =>
        go_wp2_with (first | (refine wp_storeA rfl rfl _ _ rfl rfl rfl HN.out HZ5.out HS5.out H1.out ?_) | (go_at_call 32; refine (within_any _ _ _ _).mono ?_; rintro e w' ⟨rfl, rfl⟩))
        go_ret
        exact ⟨ret_bool (by rw [h1, h2, h3]; rfl), HB.out⟩
      | true =>
        go_wp2_with (first | (refine wp_storeA rfl rfl _ _ rfl rfl rfl HN.out HZ5.out HS5.out H1.out ?_) | (go_at_call 32; refine (within_any _ _ _ _).mono ?_; rintro e w' ⟨rfl, rfl⟩))
        go_ret
        exact ⟨ret_bool (by rw [h1, h2, h3]; rfl), HB.out⟩
theorem h0_cells : cI h0L = #[.int .i64 1732584193, .int .i64 4023233417, .int .i64 2562383102, .int .i64 271733878, .int .i64 3285377520] := by simp [cI, h0L]
set_option maxHeartbeats 1000000 in
theorem ShaNew_any (w : World) :
    Calls Try.prog 8 #[] w fun e w' => ∃ b', e = .returned (shaV b' 5 5 ⟨#[]⟩ 0) ∧ w.heap.size ≤ b' ∧ RowN w' b' h0L ∧ Below w.heap.size w w' := by
  go_enter Try.func8, Try.ntmps8
  go_wp2
  rw [← h0_cells]
  refine bodyPost_ret (v := shaV (w.heap.size + 1) 5 5 ⟨#[]⟩ 0) (by simp [results, Try.results8, go_sem, shaV]) rfl ⟨w.heap.size + 1, rfl, by omega, ?_, below_a2 w _ _⟩
  have := rowN_new (w.alloc (.cells #[.slice (some ⟨w.heap.size + 1, 0, none⟩) 5 5, .string ⟨#[]⟩, .int .i64 0] 27)) h0L 3
  rwa [show (w.alloc (.cells #[.slice (some ⟨w.heap.size + 1, 0, none⟩) 5 5, .string ⟨#[]⟩, .int .i64 0] 27)).heap.size = w.heap.size + 1 by simp] at this
end Go.Proofs.Ytknpolmenfdheaa
