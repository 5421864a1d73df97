/-
  Chapter 6: messages in the laws: copies, sizes, comparisons.
-/
import Derived.Test.YtaelopjalfapgacH1
import Derived.Deep.DeepCutAuto
namespace Go.Proofs.Ytaelopjalfapgac
set_option linter.unusedVariables false
set_option linter.unusedSimpArgs false
open Go.RowKit
theorem Blk.f7 {w : World} {g : Nat} {c : Array Value} {t : TypeId} (H : Blk w g c t) : w.frozen? ⟨g, 0, none⟩ = false ∧ w.frozen? ⟨g, 1, none⟩ = false ∧ w.frozen? ⟨g, 2, none⟩ = false ∧ w.frozen? ⟨g, 3, none⟩ = false ∧ w.frozen? ⟨g, 4, none⟩ = false ∧ w.frozen? ⟨g, 5, none⟩ = false ∧ w.frozen? ⟨g, 6, none⟩ = false := ⟨H.free 0, H.free 1, H.free 2, H.free 3, H.free 4, H.free 5, H.free 6⟩
theorem Blk.set7 {w : World} {g : Nat} {a b c d e f h : Value} {t : TypeId} (H : Blk w g #[a, b, c, d, e, f, h] t) (x0 x1 x2 x3 x4 x5 x6 : Value) : Blk (((((((w.setCell ⟨g, 0, none⟩ x0).setCell ⟨g, 1, none⟩ x1).setCell ⟨g, 2, none⟩ x2).setCell ⟨g, 3, none⟩ x3).setCell ⟨g, 4, none⟩ x4).setCell ⟨g, 5, none⟩ x5).setCell ⟨g, 6, none⟩ x6) g #[x0, x1, x2, x3, x4, x5, x6] t := by
  have h0 : Blk (w.setCell ⟨g, 0, none⟩ x0) g #[x0, b, c, d, e, f, h] t := H.set 0 x0
  have h1 : Blk ((w.setCell ⟨g, 0, none⟩ x0).setCell ⟨g, 1, none⟩ x1) g #[x0, x1, c, d, e, f, h] t := h0.set 1 x1
  have h2 : Blk (((w.setCell ⟨g, 0, none⟩ x0).setCell ⟨g, 1, none⟩ x1).setCell ⟨g, 2, none⟩ x2) g #[x0, x1, x2, d, e, f, h] t := h1.set 2 x2
  have h3 : Blk ((((w.setCell ⟨g, 0, none⟩ x0).setCell ⟨g, 1, none⟩ x1).setCell ⟨g, 2, none⟩ x2).setCell ⟨g, 3, none⟩ x3) g #[x0, x1, x2, x3, e, f, h] t := h2.set 3 x3
  have h4 : Blk (((((w.setCell ⟨g, 0, none⟩ x0).setCell ⟨g, 1, none⟩ x1).setCell ⟨g, 2, none⟩ x2).setCell ⟨g, 3, none⟩ x3).setCell ⟨g, 4, none⟩ x4) g #[x0, x1, x2, x3, x4, f, h] t := h3.set 4 x4
  have h5 : Blk ((((((w.setCell ⟨g, 0, none⟩ x0).setCell ⟨g, 1, none⟩ x1).setCell ⟨g, 2, none⟩ x2).setCell ⟨g, 3, none⟩ x3).setCell ⟨g, 4, none⟩ x4).setCell ⟨g, 5, none⟩ x5) g #[x0, x1, x2, x3, x4, x5, h] t := h4.set 5 x5
  have h6 : Blk (((((((w.setCell ⟨g, 0, none⟩ x0).setCell ⟨g, 1, none⟩ x1).setCell ⟨g, 2, none⟩ x2).setCell ⟨g, 3, none⟩ x3).setCell ⟨g, 4, none⟩ x4).setCell ⟨g, 5, none⟩ x5).setCell ⟨g, 6, none⟩ x6) g #[x0, x1, x2, x3, x4, x5, x6] t := h5.set 6 x6
  exact h6
theorem Blk.oth7 {w : World} {b g : Nat} {c : Array Value} {t : TypeId} (H : Blk w b c t) (hne : g ≠ b) (x0 x1 x2 x3 x4 x5 x6 : Value) : Blk (((((((w.setCell ⟨g, 0, none⟩ x0).setCell ⟨g, 1, none⟩ x1).setCell ⟨g, 2, none⟩ x2).setCell ⟨g, 3, none⟩ x3).setCell ⟨g, 4, none⟩ x4).setCell ⟨g, 5, none⟩ x5).setCell ⟨g, 6, none⟩ x6) b c t := ((((((H.other hne 0 x0).other hne 1 x1).other hne 2 x2).other hne 3 x3).other hne 4 x4).other hne 5 x5).other hne 6 x6
theorem RowF.oth7 {w : World} {b g : Nat} {l : List Fd} (H : RowF w b l) (hne : g ≠ b) (x0 x1 x2 x3 x4 x5 x6 : Value) : RowF (((((((w.setCell ⟨g, 0, none⟩ x0).setCell ⟨g, 1, none⟩ x1).setCell ⟨g, 2, none⟩ x2).setCell ⟨g, 3, none⟩ x3).setCell ⟨g, 4, none⟩ x4).setCell ⟨g, 5, none⟩ x5).setCell ⟨g, 6, none⟩ x6) b l := ((((((H.other hne 0 x0).other hne 1 x1).other hne 2 x2).other hne 3 x3).other hne 4 x4).other hne 5 x5).other hne 6 x6
theorem below_set7 {B g : Nat} {w0 w : World} (H : Below B w0 w) (hg : B ≤ g) (x0 x1 x2 x3 x4 x5 x6 : Value) : Below B w0 (((((((w.setCell ⟨g, 0, none⟩ x0).setCell ⟨g, 1, none⟩ x1).setCell ⟨g, 2, none⟩ x2).setCell ⟨g, 3, none⟩ x3).setCell ⟨g, 4, none⟩ x4).setCell ⟨g, 5, none⟩ x5).setCell ⟨g, 6, none⟩ x6) := ((((((H.setCell (p := ⟨g, 0, none⟩) hg x0).setCell (p := ⟨g, 1, none⟩) hg x1).setCell (p := ⟨g, 2, none⟩) hg x2).setCell (p := ⟨g, 3, none⟩) hg x3).setCell (p := ⟨g, 4, none⟩) hg x4).setCell (p := ⟨g, 5, none⟩) hg x5).setCell (p := ⟨g, 6, none⟩) hg x6
theorem Try.infoMsg : (Try.prog.info? 29).map (·.size) = some 7 := by kernel_rfl
/-- All that a message holds. -/
def totM (me ta re bo : ByteArray) (len : Nat) (fs : List Fd) : Nat := me.size + ta.size + re.size + len + totF fs + bo.size
set_option maxHeartbeats 2000000 in
theorem eqMsg_same (me ta re bo : ByteArray) (st : Int) (ba : Bool) (fa : Option Addr) (fn fc : Nat) (fs : List Fd) (ga : Option Addr) (gc : Nat) (w : World) (ha : SlF w (.slice fa fn fc) fs) (hb : SlF w (.slice ga fn gc) fs) (hm : fs.length ≤ 1048576) :
    Calls Try.prog 12 #[.agg #[.string me, .string ta, .int .i64 st, .string re, .bool ba, .slice fa fn fc, .string bo], .agg #[.string me, .string ta, .int .i64 st, .string re, .bool ba, .slice ga fn gc, .string bo]] w fun e w' => e = .returned (.bool true) ∧ Below w.heap.size w w' := by
  have HB := hideB2 (below_a2 w (.cells #[.string me, .string ta, .int .i64 st, .string re, .bool ba, .slice fa fn fc, .string bo] 29) (.cells #[.string me, .string ta, .int .i64 st, .string re, .bool ba, .slice ga fn gc, .string bo] 29))
  have A1 := hideB2 ((Blk.new w #[.string me, .string ta, .int .i64 st, .string re, .bool ba, .slice fa fn fc, .string bo] 29).alloc (.cells #[.string me, .string ta, .int .i64 st, .string re, .bool ba, .slice ga fn gc, .string bo] 29))
  have A2 := hideB2 (show Blk ((w.alloc (.cells #[.string me, .string ta, .int .i64 st, .string re, .bool ba, .slice fa fn fc, .string bo] 29)).alloc (.cells #[.string me, .string ta, .int .i64 st, .string re, .bool ba, .slice ga fn gc, .string bo] 29)) (w.heap.size + 1) #[.string me, .string ta, .int .i64 st, .string re, .bool ba, .slice ga fn gc, .string bo] 29 by
    have := Blk.new (w.alloc (.cells #[.string me, .string ta, .int .i64 st, .string re, .bool ba, .slice fa fn fc, .string bo] 29)) #[.string me, .string ta, .int .i64 st, .string re, .bool ba, .slice ga fn gc, .string bo] 29
    simpa using this)
  have HE := hideB2 (fun W h1 h2 => eqFieldS_same (.slice fa fn fc) (.slice ga fn gc) fs W h1 h2 hm)
  have HA := hideB2 ha
  have HC := hideB2 hb
  clear ha hb
  have e1 : (me.toList == me.toList) = true := by simp
  have e2 : (ta.toList == ta.toList) = true := by simp
  have e3 : (re.toList == re.toList) = true := by simp
  have e4 : (bo.toList == bo.toList) = true := by simp
  go_enter Try.func12, Try.ntmps12
  go_wp2_with (go_at_call 26; refine (HE.out _ (HA.out.later HB.out) (HC.out.later HB.out)).mono ?_; rintro e w3 ⟨rfl, hb3⟩; obtain ⟨p0, p1, p2, p3, p4, p5, p6⟩ := (A1.out.later hb3).c7; obtain ⟨q0, q1, q2, q3, q4, q5, q6⟩ := (A2.out.later hb3).c7)
  go_ret
  exact ⟨rfl, below_then HB.out hb3⟩
end Go.Proofs.Ytaelopjalfapgac
