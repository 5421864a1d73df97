/-
  Chapter 6: a reader that gives up; a head's line; a field out of it. The program's side. · Chapter 6: the first line; the program's side. · Chapter 6: an answer's first line, and either; the program's side. · Chapter 6: the first line, of a request or an answer; the program's side. · Chapter 6: a text cut at its first ';'. · Plain functions of chapter 1: numbers in sixteens. No Go in sight. · The walks over chapter 1: TakeN. · Chapter 6: a body out of its chunks, on lists. No Go in sight. · The walks over chapter 1: impl.TakeN. · The walks over chapter 1: ReadHex. · Chapter 6: a body out of its chunks; the program's readers, which give up by a panic. · Chapter 6: rows of fields of the call's own beside boxes that are stored into (all blocks of the row stand at B or behind). · Chapter 6: a head's lines, on lists, and the program's reader of a head. · Chapter 6: a reader's panic is caught at the face. · Chapter 6: what a closure that fills a message's box, and a second one, leaves of the world.
-/
import Derived.Test.YtodandipfjamnaaDoorJ2
import Derived.Test.YtodandipfjamnaaDoorJ3
import Derived.Test.YtodandipfjamnaaDoorJ1
import Derived.Deep.RegionWith
import Derived.OwnWalk
import Derived.Laws.OwnMore
import Derived.WalkMore
import Derived.RegionDies
import Derived.Defers
import Derived.Recover
import Derived.Stop.Asserts
namespace Go.Proofs.YtodandipfjamnaaDoor
set_option linter.unusedVariables false
set_option linter.unusedSimpArgs false
open Go.RowKit
/-- A reader has given up with a code. -/
def gone (c : Int) : List PanicEntry := [{ v := .iface 52 (.int .i64 c), recovered := false }]
set_option maxHeartbeats 400000 in
theorem refuseIf_no (c : Int) (w : World) : Calls Tryd.prog 26 #[.bool false, .int .i64 c] w fun e w' => e = .returned (.tuple #[]) ∧ w' = w := by
  go_enter Tryd.func26, Tryd.ntmps26
  go_wp2
  go_end0
  exact ⟨rfl, rfl⟩
set_option maxHeartbeats 400000 in
theorem refuseIf_yes (c : Int) (w : World) : Calls Tryd.prog 26 #[.bool true, .int .i64 c] w fun e w' => e = .panicked (gone c) ∧ w' = w := by
  go_enter Tryd.func26, Tryd.ntmps26
  go_wp2
  exact ⟨rfl, rfl, rfl⟩
/-- What comes of a refusal, or of none. -/
def refE : Bool → Int → Ending
  | true, c => .panicked (gone c)
  | false, _ => .returned (.tuple #[])
theorem refuseIf_any (b : Bool) (c : Int) (w : World) : Calls Tryd.prog 26 #[.bool b, .int .i64 c] w fun e w' => e = refE b c ∧ w' = w := by
  cases b
  · exact refuseIf_no c w
  · exact refuseIf_yes c w
theorem Tryd.infoCur : (Tryd.prog.info? 31).map (·.size) = some 2 := by kernel_rfl
theorem results_tmpC {fn : Func} {p u : Tmp} {ty : TypeId} (h : fn.results = #[.tmp u, .cell p ty]) (tmps : Array Value) (P : Program) (w : World) {b : Nat} {c : Array Value} {t : TypeId} {fs : Array Field} (hp : tmps.getD p undef = .pointer (some ⟨b, 0, none⟩)) (hB : Blk w b c t)
    (hu : P.underlying ty = some (.struct fs)) (hi : (P.info? ty).map (·.size) = some c.size) : (results fn tmps).run P w = .ok (.tuple #[tmps.getD u undef, .agg c]) w := by
  have hrun := run_loadVar_row (P := P) w b t ty c (0, 0) _ hB hu rfl hi
  have ha : (asAddr (tmps.getD p undef)).run P w = .ok ⟨b, 0, none⟩ w := by rw [hp]; rfl
  have he : (results fn tmps).run P w = ((asAddr (tmps.getD p undef)).run P w).andThen fun a w₁ => ((loadVar ty a).run P w₁).andThen fun v w₂ => .ok (.tuple #[tmps.getD u undef, v]) w₂ := by
    simp only [results, h]
    simp [Sem.run_bind, Result.andThen]
  rw [he, ha]
  show ((loadVar ty ⟨b, 0, none⟩).run P w).andThen _ = _
  rw [hrun]
  rfl
set_option maxRecDepth 100000 in
set_option maxHeartbeats 2000000 in
theorem headLine_bad (s : ByteArray) (k : Nat) (w : World) (hs : s.size ≤ maxLen) (hk : k ≤ s.size) (h : hlC s k ≠ 0) :
    Calls Tryd.prog 27 #[.agg #[.string s, .int .i64 (k : Int)]] w fun e w' => e = .panicked (gone (hlC s k)) ∧ Below w.heap.size w w' := by
  have hs' := hs
  unfold maxLen at hs'
  have HB := hideB2 (below_a2 w (.cells #[.string s, .int .i64 (k : Int)] 31) (.cells #[.string ⟨#[]⟩, .int .i64 0] 31))
  have HTL := hideB2 (fun W => TakeLine_ok s k W hs hk)
  by_cases h1 : tlC s k = 0
  · have hE := tlE_ok hk h1
    have hge := tlE_ge s k
    have hz := lineAt_size hk
    unfold hlC at h
    rw [show hlC s k = (if 300 < tlE s k - k ∨ 1500 < tlE s k + 2 then 431 else 0) by unfold hlC; rw [if_pos h1]]
    rw [if_pos h1] at h
    have HB2 := h
    rw [tlV_ok h1] at HTL
    change Hid (∀ W, Calls _ _ _ W fun e w' => e = .returned (.tuple #[.string (lineAt s k), .agg #[.string s, .int .i64 ((tlE s k : Int) + 2)], .int .i64 0]) ∧ Below W.heap.size W w') at HTL
    generalize tlE s k = E at *
    generalize lineAt s k = L at *
    by_cases h2 : (300 : Int) < (L.size : Int)
    · rw [if_pos (by omega)]
      clear h h1 HB2
      go_enter Tryd.func27, Tryd.ntmps27
      go_wp2_with (first | (go_at_call 38; refine (HTL.out _).mono ?_; rintro e w2 ⟨rfl, hb2⟩) | (go_at_call 26; refine (refuseIf_any _ _ _).mono ?_; rintro e w3 ⟨rfl, rfl⟩; simp only [refE]))
      exact ⟨rfl, rfl, below_then (below_then HB.out hb2) (below_a1 _ _)⟩
    · have h3 : (1500 : Int) < (E : Int) + 2 := by
        by_cases h4 : (1500 : Int) < (E : Int) + 2
        · exact h4
        · exact absurd (if_neg (by omega)) HB2
      rw [if_pos (by omega)]
      clear h h1 HB2
      have d2 : decide ((300 : Int) < (L.size : Int)) = false := decide_eq_false h2
      go_enter Tryd.func27, Tryd.ntmps27
      go_wp2_with (first | (go_at_call 38; refine (HTL.out _).mono ?_; rintro e w2 ⟨rfl, hb2⟩) | (go_at_call 26; refine (refuseIf_any _ _ _).mono ?_; rintro e w3 ⟨rfl, rfl⟩; simp only [refE]))
      exact ⟨rfl, rfl, below_then (below_then HB.out hb2) (below_a1 _ _)⟩
  · rw [hlC_bad h1]
    obtain ⟨c, hc, hv⟩ := tlV_not h1
    rw [hv] at HTL
    clear h h1 hv
    unfold curZ at HTL
    go_enter Tryd.func27, Tryd.ntmps27
    go_wp2_with (first | (go_at_call 38; refine (HTL.out _).mono ?_; rintro e w2 ⟨rfl, hb2⟩) | (go_at_call 26; refine (refuseIf_any _ _ _).mono ?_; rintro e w3 ⟨rfl, rfl⟩; simp only [refE]))
    exact ⟨rfl, rfl, below_then (below_then HB.out hb2) (below_a1 _ _)⟩
set_option maxRecDepth 100000 in
set_option maxHeartbeats 2000000 in
theorem headLine_ok (s : ByteArray) (k : Nat) (w : World) (hs : s.size ≤ maxLen) (hk : k ≤ s.size) (h : hlC s k = 0) :
    Calls Tryd.prog 27 #[.agg #[.string s, .int .i64 (k : Int)]] w fun e w' => e = .returned (.tuple #[.string (lineAt s k), .agg #[.string s, .int .i64 ((tlE s k : Int) + 2)]]) ∧ Below w.heap.size w w' := by
  have hs' := hs
  unfold maxLen at hs'
  have HB := hideB2 (below_a2 w (.cells #[.string s, .int .i64 (k : Int)] 31) (.cells #[.string ⟨#[]⟩, .int .i64 0] 31))
  have A2 := hideB2 (show Blk ((w.alloc (.cells #[.string s, .int .i64 (k : Int)] 31)).alloc (.cells #[.string ⟨#[]⟩, .int .i64 0] 31)) (w.heap.size + 1) #[.string ⟨#[]⟩, .int .i64 0] 31 by
    have := Blk.new (w.alloc (.cells #[.string s, .int .i64 (k : Int)] 31)) #[.string ⟨#[]⟩, .int .i64 0] 31
    simpa using this)
  have HTL := hideB2 (fun W => TakeLine_ok s k W hs hk)
  obtain ⟨h1, h2, h3⟩ := hlC_zero h
  have hE := tlE_ok hk h1
  have hge := tlE_ge s k
  have hz := lineAt_size hk
  rw [tlV_ok h1] at HTL
  change Hid (∀ W, Calls _ _ _ W fun e w' => e = .returned (.tuple #[.string (lineAt s k), .agg #[.string s, .int .i64 ((tlE s k : Int) + 2)], .int .i64 0]) ∧ Below W.heap.size W w') at HTL
  clear h h1
  generalize tlE s k = E at *
  generalize lineAt s k = L at *
  have z0 : ((0 : Int) != 0) = false := rfl
  have d2 : decide ((300 : Int) < (L.size : Int)) = false := decide_eq_false (by omega)
  have d3 : decide ((1500 : Int) < (E : Int) + 2) = false := decide_eq_false (by omega)
  clear hz h2 hge
  go_enter Tryd.func27, Tryd.ntmps27
  go_wp2_with (first | (go_at_call 38; refine (HTL.out _).mono ?_; rintro e w2 ⟨rfl, hb2⟩) | (go_at_call 26; refine (refuseIf_any _ _ _).mono ?_; rintro e w3 ⟨rfl, rfl⟩; simp only [refE]))
  have A3 := (A2.out.later hb2).alloc (.cells #[.string s, .int .i64 ((E : Int) + 2)] 31)
  have hlt := (A2.out.later hb2).lt
  obtain ⟨p0, p1⟩ := A3.c2
  have f0 := A3.free 0
  have f1 := A3.free 1
  have HA3 := hideB2 A3
  have HB2 := hideB2 (below_then (below_then HB.out hb2) (below_a1 _ (.cells #[.string s, .int .i64 ((E : Int) + 2)] 31)))
  have N3 := Blk.new w2 #[.string s, .int .i64 ((E : Int) + 2)] 31
  obtain ⟨q0, q1⟩ := N3.c2
  clear A3 hb2 N3
  generalize hW : w2.alloc (.cells #[.string s, .int .i64 ((E : Int) + 2)] 31) = W3 at *
  clear hW
  go_region
  go_wp2
  refine bodyPost_ret (results_tmpC rfl _ _ _ rfl (HA3.out.set2 _ _) Tryd.underlying31 Tryd.infoCur) rfl ⟨rfl, ?_⟩
  exact (below_set2 (g := w.heap.size + 1) HB2.out (by omega) _ _).drew
end Go.Proofs.YtodandipfjamnaaDoor
namespace Go.Proofs.YtodandipfjamnaaDoor
set_option linter.unusedVariables false
set_option linter.unusedSimpArgs false
open Go.RowKit
theorem eqB_ver {s : ByteArray} : (s.toList == [72, 84, 84, 80, 47, 49, 46, 49]) = decide (s = verB) := by
  have h : eqB s verB = (s.toList == [72, 84, 84, 80, 47, 49, 46, 49]) := by unfold eqB; rw [ByteArray.toList_eq verB]; rfl
  rw [← h]
  by_cases hs : s = verB
  · rw [decide_eq_true hs, hs]; exact eqB_self _
  · rw [decide_eq_false hs]
    cases he : eqB s verB with
    | false => rfl
    | true => exact absurd (eqB_iff.1 he) hs
theorem rqP_not {s : ByteArray} (h : Lib.countB s ⟨#[32]⟩ ≠ 2) : rqP s = none := by
  have hl := prtL_len s
  unfold rqP
  match hx : prtL s with
  | [] => rfl
  | [_] => rfl
  | [_, _] => rfl
  | [_, _, _] => rw [hx] at hl; simp at hl; omega
  | _ :: _ :: _ :: _ :: _ => rfl
theorem prtL_three {s : ByteArray} (h : Lib.countB s ⟨#[32]⟩ = 2) : ∃ p q r, prtL s = [p, q, r] := by
  have hl := prtL_len s
  rw [h] at hl
  match hx : prtL s with
  | [] => rw [hx] at hl; simp at hl
  | [_] => rw [hx] at hl; simp at hl
  | [_, _] => rw [hx] at hl; simp at hl
  | [p, q, r] => exact ⟨p, q, r, rfl⟩
  | _ :: _ :: _ :: _ :: _ => rw [hx] at hl; simp at hl
/-- What comes of a request's first line. -/
def rqPost (X : Option (ByteArray × ByteArray)) (e : Ending) : Prop :=
  match X with
  | some (p, q) => e = .returned (.agg #[.string p, .string q, .int .i64 0, .string ⟨#[]⟩, .bool false, .slice none 0 0, .string ⟨#[]⟩])
  | none => e = .panicked (gone 400)
set_option maxRecDepth 100000 in
set_option maxHeartbeats 4000000 in
theorem requestLine_any (s : ByteArray) (w : World) (hs : s.size ≤ 1048576) (hz : ∀ x ∈ prtL s, x.size ≤ 1048576) (X : Option (ByteArray × ByteArray)) (hX : rqP s = X) :
    Calls Tryd.prog 40 #[.string s] w fun e w' => rqPost X e ∧ Below w.heap.size w w' := by
  have HB := hideB2 (below_a1 w (.cells #[.string ⟨#[]⟩, .string ⟨#[]⟩, .int .i64 0, .string ⟨#[]⟩, .bool false, .slice none 0 0, .string ⟨#[]⟩] 24))
  have A1 := hideB2 (Blk.new w #[.string ⟨#[]⟩, .string ⟨#[]⟩, .int .i64 0, .string ⟨#[]⟩, .bool false, .slice none 0 0, .string ⟨#[]⟩] 24)
  have HSp := hideB2 (fun W => SplitBl_any s W (by omega))
  change Hid (∀ W, Calls _ _ _ W fun e w' => e = .returned (.slice (some ⟨W.heap.size, 0, none⟩) (Lib.countB s ⟨#[32]⟩ + 1) (Lib.countB s ⟨#[32]⟩ + 1)) ∧ w' = W.alloc (.cells ((prtL s).map Value.string).toArray 9)) at HSp
  by_cases h2 : Lib.countB s ⟨#[32]⟩ = 2
  · obtain ⟨p, q, r, hp⟩ := prtL_three h2
    have hX2 : X = if r = verB ∧ reqQ (rqM p q) = true then some (p, q) else none := by rw [← hX]; unfold rqP; rw [hp]
    rw [h2, hp] at HSp
    have zp := hz p (by rw [hp]; simp)
    have zq := hz q (by rw [hp]; simp)
    have HX := hideB2 hX2
    clear hX hX2 h2 hp hz hs
    have hver := eqB_ver (s := r)
    have HRQ := hideB2 (fun W => requestOk_any p q ⟨#[]⟩ ⟨#[]⟩ 0 false none 0 0 [] W (by unfold maxLen; omega) (by unfold maxLen; omega))
    change Hid (∀ W, Calls _ _ _ W fun e w' => e = .returned (.bool (reqQ (rqM p q))) ∧ Below W.heap.size W w') at HRQ
    by_cases hv : r = verB
    · rw [decide_eq_true hv] at hver
      cases hrq : reqQ (rqM p q)
      · obtain rfl : X = none := by rw [HX.out, if_neg (by rw [hrq]; simp)]
        rw [hrq] at HRQ
        clear HX hv hrq
        go_enter Tryd.func40, Tryd.ntmps40
        go_wp2_with (first
          | (go_at_call 26; refine (refuseIf_any _ _ _).mono ?_; rintro e w9 ⟨rfl, rfl⟩; simp only [refE])
          | (go_at_call 52; refine (HSp.out _).mono ?_; rintro e w2 ⟨rfl, hw2⟩; rw [hw2]))
        have B1 : Blk ((w.alloc (.cells #[.string ⟨#[]⟩, .string ⟨#[]⟩, .int .i64 0, .string ⟨#[]⟩, .bool false, .slice none 0 0, .string ⟨#[]⟩] 24)).alloc (.cells #[.string p, .string q, .string r] 9)) (w.heap.size + 1) #[.string p, .string q, .string r] 9 := by
          have := Blk.new (w.alloc (.cells #[.string ⟨#[]⟩, .string ⟨#[]⟩, .int .i64 0, .string ⟨#[]⟩, .bool false, .slice none 0 0, .string ⟨#[]⟩] 24)) #[.string p, .string q, .string r] 9
          simpa using this
        have A2 := A1.out.alloc (.cells #[.string p, .string q, .string r] 9)
        have hB2 := below_then HB.out (below_a1 _ (.cells #[.string p, .string q, .string r] 9))
        generalize hW : (w.alloc (.cells #[.string ⟨#[]⟩, .string ⟨#[]⟩, .int .i64 0, .string ⟨#[]⟩, .bool false, .slice none 0 0, .string ⟨#[]⟩] 24)).alloc (.cells #[.string p, .string q, .string r] 9) = W2 at *
        clear hW
        have c0 : W2.cell? ⟨w.heap.size + 1, 0, none⟩ = some (.string p) := B1.cell 0
        have c1 : W2.cell? ⟨w.heap.size + 1, 1, none⟩ = some (.string q) := B1.cell 1
        have d0 : ∀ o, (W2.alloc o).cell? ⟨w.heap.size + 1, 0, none⟩ = some (.string p) := fun o => (B1.alloc o).cell 0
        have d1 : ∀ o, (W2.alloc o).cell? ⟨w.heap.size + 1, 1, none⟩ = some (.string q) := fun o => (B1.alloc o).cell 1
        have HA2 := hideB2 A2
        have HB2 := hideB2 hB2
        clear A2 hB2 B1
        go_cut [4] (fun c wc => c = .pointer (some ⟨W2.heap.size, 0, none⟩) ∧ Below W2.heap.size W2 wc ∧ Blk wc W2.heap.size #[.string p, .string q, .int .i64 0, .string ⟨#[]⟩, .bool false, .slice none 0 0, .string ⟨#[]⟩] 24)
        case first =>
          go_region
          all_goals
            go_wp2_with fail
            go_meet
            exact ⟨rfl, (below_a1 W2 _).drew, (Blk.new W2 _ _).drew⟩
        case rest =>
          obtain ⟨rfl, hb3, N3⟩ := hcut
          have A3 := HA2.out.later hb3
          have HB3 := hideB2 (below_then HB2.out hb3)
          obtain ⟨x0, x1, x2, x3, x4, x5, x6⟩ := N3.c7
          clear hb3 c0 c1 d0 d1
          go_wp2_with (first
            | (go_at_call 26; refine (refuseIf_any _ _ _).mono ?_; rintro e w9 ⟨rfl, rfl⟩; simp only [refE])
            | (go_at_call 53; refine (HRQ.out _).mono ?_; rintro e w4 ⟨rfl, hb4⟩))
          exact ⟨rfl, show rqPost none _ from rfl, below_then HB3.out hb4⟩
      · obtain rfl : X = some (p, q) := by rw [HX.out, if_pos ⟨hv, hrq⟩]
        rw [hrq] at HRQ
        clear HX hv hrq
        go_enter Tryd.func40, Tryd.ntmps40
        go_wp2_with (first
          | (go_at_call 26; refine (refuseIf_any _ _ _).mono ?_; rintro e w9 ⟨rfl, rfl⟩; simp only [refE])
          | (go_at_call 52; refine (HSp.out _).mono ?_; rintro e w2 ⟨rfl, hw2⟩; rw [hw2]))
        have B1 : Blk ((w.alloc (.cells #[.string ⟨#[]⟩, .string ⟨#[]⟩, .int .i64 0, .string ⟨#[]⟩, .bool false, .slice none 0 0, .string ⟨#[]⟩] 24)).alloc (.cells #[.string p, .string q, .string r] 9)) (w.heap.size + 1) #[.string p, .string q, .string r] 9 := by
          have := Blk.new (w.alloc (.cells #[.string ⟨#[]⟩, .string ⟨#[]⟩, .int .i64 0, .string ⟨#[]⟩, .bool false, .slice none 0 0, .string ⟨#[]⟩] 24)) #[.string p, .string q, .string r] 9
          simpa using this
        have A2 := A1.out.alloc (.cells #[.string p, .string q, .string r] 9)
        have hB2 := below_then HB.out (below_a1 _ (.cells #[.string p, .string q, .string r] 9))
        generalize hW : (w.alloc (.cells #[.string ⟨#[]⟩, .string ⟨#[]⟩, .int .i64 0, .string ⟨#[]⟩, .bool false, .slice none 0 0, .string ⟨#[]⟩] 24)).alloc (.cells #[.string p, .string q, .string r] 9) = W2 at *
        clear hW
        have c0 : W2.cell? ⟨w.heap.size + 1, 0, none⟩ = some (.string p) := B1.cell 0
        have c1 : W2.cell? ⟨w.heap.size + 1, 1, none⟩ = some (.string q) := B1.cell 1
        have d0 : ∀ o, (W2.alloc o).cell? ⟨w.heap.size + 1, 0, none⟩ = some (.string p) := fun o => (B1.alloc o).cell 0
        have d1 : ∀ o, (W2.alloc o).cell? ⟨w.heap.size + 1, 1, none⟩ = some (.string q) := fun o => (B1.alloc o).cell 1
        have HA2 := hideB2 A2
        have HB2 := hideB2 hB2
        clear A2 hB2 B1
        go_cut [4] (fun c wc => c = .pointer (some ⟨W2.heap.size, 0, none⟩) ∧ Below W2.heap.size W2 wc ∧ Blk wc W2.heap.size #[.string p, .string q, .int .i64 0, .string ⟨#[]⟩, .bool false, .slice none 0 0, .string ⟨#[]⟩] 24)
        case first =>
          go_region
          all_goals
            go_wp2_with fail
            go_meet
            exact ⟨rfl, (below_a1 W2 _).drew, (Blk.new W2 _ _).drew⟩
        case rest =>
          obtain ⟨rfl, hb3, N3⟩ := hcut
          have A3 := HA2.out.later hb3
          have HB3 := hideB2 (below_then HB2.out hb3)
          obtain ⟨x0, x1, x2, x3, x4, x5, x6⟩ := N3.c7
          clear hb3 c0 c1 d0 d1
          generalize W2.heap.size = G3 at *
          go_wp2_with fail
          refine (HRQ.out _).mono ?_
          rintro e w4 ⟨rfl, hb4⟩
          have A4 := A3.later hb4
          have N4 := N3.later hb4
          obtain ⟨y0, y1, y2, y3, y4, y5, y6⟩ := N4.c7
          obtain ⟨z0, z1, z2, z3, z4, z5, z6⟩ := A4.c7
          obtain ⟨f0, f1, f2, f3, f4, f5, f6⟩ := A4.f7
          have HA4 := hideB2 A4
          have HB4 := hideB2 (below_then HB3.out hb4)
          clear x0 x1 x2 x3 x4 x5 x6 A3 N3 A4 N4 hb4
          go_wp2_with (go_at_call 26; refine (refuseIf_any _ _ _).mono ?_; rintro e w9 ⟨rfl, rfl⟩; simp only [refE])
          refine bodyPost_ret (results_cellS rfl _ _ _ rfl (HA4.out.set7 _ _ _ _ _ _ _) Tryd.underlying24 Tryd.infoMsg) rfl ⟨show rqPost (some (p, q)) _ from rfl, ?_⟩
          exact below_set7 HB4.out (Nat.le_refl _) _ _ _ _ _ _ _
    · rw [decide_eq_false hv] at hver
      obtain rfl : X = none := by rw [HX.out, if_neg (fun h => hv h.1)]
      clear HX hv HRQ
      go_enter Tryd.func40, Tryd.ntmps40
      go_wp2_with (first
        | (go_at_call 26; refine (refuseIf_any _ _ _).mono ?_; rintro e w9 ⟨rfl, rfl⟩; simp only [refE])
        | (go_at_call 52; refine (HSp.out _).mono ?_; rintro e w2 ⟨rfl, hw2⟩; rw [hw2]))
      exact ⟨rfl, show rqPost none _ from rfl, below_then HB.out (below_a1 _ _)⟩
  · obtain rfl : X = none := by rw [← hX]; exact rqP_not h2
    have hne : ((Lib.countB s ⟨#[32]⟩ : Int) + 1 != 3) = true := by rw [bne_iff_ne]; omega
    clear hX h2 hz
    generalize ((prtL s).map Value.string).toArray = arr at *
    generalize Lib.countB s ⟨#[32]⟩ = cn at *
    go_enter Tryd.func40, Tryd.ntmps40
    go_wp2_with (first
      | (go_at_call 26; refine (refuseIf_any _ _ _).mono ?_; rintro e w9 ⟨rfl, rfl⟩; simp only [refE])
      | (go_at_call 52; refine (HSp.out _).mono ?_; rintro e w2 ⟨rfl, hw2⟩; rw [hw2]))
    exact ⟨rfl, show rqPost none _ from rfl, below_then HB.out (below_a1 _ _)⟩
end Go.Proofs.YtodandipfjamnaaDoor
namespace Go.Proofs.YtodandipfjamnaaDoor
set_option linter.unusedVariables false
set_option linter.unusedSimpArgs false
open Go.RowKit
theorem anP_not {s : ByteArray} (h : (prt3 s).length ≠ 3) : anP s = none := by
  unfold anP
  match hx : prt3 s with
  | [] => rfl
  | [_] => rfl
  | [_, _] => rfl
  | [_, _, _] => rw [hx] at h; simp at h
  | _ :: _ :: _ :: _ :: _ => rfl
theorem prt3_three {s : ByteArray} (h : (prt3 s).length = 3) : ∃ p q r, prt3 s = [p, q, r] ∧ min 3 (s.size + 1) = 3 := by
  have hl := Lib.splitB_length_le ⟨#[32]⟩ 0 (min 3 (s.size + 1) - 1) s
  change (prt3 s).length ≤ _ at hl
  match hx : prt3 s with
  | [] => rw [hx] at h; simp at h
  | [_] => rw [hx] at h; simp at h
  | [_, _] => rw [hx] at h; simp at h
  | [p, q, r] => exact ⟨p, q, r, rfl, by omega⟩
  | _ :: _ :: _ :: _ :: _ => rw [hx] at h; simp at h
def anPost (X : Option (Int × ByteArray)) (e : Ending) : Prop :=
  match X with
  | some (n, r) => e = .returned (.agg #[.string ⟨#[]⟩, .string ⟨#[]⟩, .int .i64 n, .string r, .bool false, .slice none 0 0, .string ⟨#[]⟩])
  | none => e = .panicked (gone 400)
set_option maxRecDepth 100000 in
set_option maxHeartbeats 4000000 in
theorem answerLine_any (s : ByteArray) (w : World) (hs : s.size ≤ 1048576) (hz : ∀ x ∈ prt3 s, x.size ≤ 1048576) (X : Option (Int × ByteArray)) (hX : anP s = X) :
    Calls Tryd.prog 39 #[.string s] w fun e w' => anPost X e ∧ Below w.heap.size w w' := by
  have HB := hideB2 (below_a1 w (.cells #[.string ⟨#[]⟩, .string ⟨#[]⟩, .int .i64 0, .string ⟨#[]⟩, .bool false, .slice none 0 0, .string ⟨#[]⟩] 24))
  have A1 := hideB2 (Blk.new w #[.string ⟨#[]⟩, .string ⟨#[]⟩, .int .i64 0, .string ⟨#[]⟩, .bool false, .slice none 0 0, .string ⟨#[]⟩] 24)
  have HSp := hideB2 (fun W => SplitNBl_any s W (by omega))
  change Hid (∀ W, Calls _ _ _ W fun e w' => e = .returned (.slice (some ⟨W.heap.size, 0, none⟩) (prt3 s).length (min 3 (s.size + 1))) ∧ w' = W.alloc (.cells (Lib.cellsOf (prt3 s) (min 3 (s.size + 1))) 9)) at HSp
  by_cases h2 : (prt3 s).length = 3
  · obtain ⟨p, q, r, hp, hm⟩ := prt3_three h2
    have hX2 : X = if p = verB ∧ rdecOk q = true ∧ ansQ (anM (rdecN q) r) = true then some (rdecN q, r) else none := by rw [← hX]; unfold anP; rw [hp]
    rw [hp, hm] at HSp
    change Hid (∀ W, Calls _ _ _ W fun e w' => e = .returned (.slice (some ⟨W.heap.size, 0, none⟩) 3 3) ∧ w' = W.alloc (.cells #[.string p, .string q, .string r] 9)) at HSp
    have zq := hz q (by rw [hp]; simp)
    have zr := hz r (by rw [hp]; simp)
    have HX := hideB2 hX2
    clear hX hX2 h2 hp hz hs hm
    have hver := eqB_ver (s := p)
    have HD := hideB2 (fun W => ReadDec_any q W (by unfold maxLen; omega))
    have HAQ := hideB2 (fun W => answerOk_any ⟨#[]⟩ ⟨#[]⟩ r ⟨#[]⟩ (rdecN q) false none 0 0 [] W (by unfold maxLen; omega))
    change Hid (∀ W, Calls _ _ _ W fun e w' => e = .returned (.bool (ansQ (anM (rdecN q) r))) ∧ Below W.heap.size W w') at HAQ
    have B1 := hideB2 (show Blk ((w.alloc (.cells #[.string ⟨#[]⟩, .string ⟨#[]⟩, .int .i64 0, .string ⟨#[]⟩, .bool false, .slice none 0 0, .string ⟨#[]⟩] 24)).alloc (.cells #[.string p, .string q, .string r] 9)) (w.heap.size + 1) #[.string p, .string q, .string r] 9 by
      have := Blk.new (w.alloc (.cells #[.string ⟨#[]⟩, .string ⟨#[]⟩, .int .i64 0, .string ⟨#[]⟩, .bool false, .slice none 0 0, .string ⟨#[]⟩] 24)) #[.string p, .string q, .string r] 9
      simpa using this)
    have A2 := hideB2 (A1.out.alloc (.cells #[.string p, .string q, .string r] 9))
    have HB2 := hideB2 (below_then HB.out (below_a1 _ (.cells #[.string p, .string q, .string r] 9)))
    by_cases hv : p = verB
    · rw [decide_eq_true hv] at hver
      cases hok : rdecOk q
      · obtain rfl : X = none := by rw [HX.out, if_neg (by rw [hok]; simp)]
        rw [hok] at HD
        clear HX hv hok HAQ
        generalize rdecN q = n at *
        go_enter Tryd.func39, Tryd.ntmps39
        go_wp2_with (first
          | (go_at_call 26; refine (refuseIf_any _ _ _).mono ?_; rintro e w9 ⟨rfl, rfl⟩; simp only [refE])
          | (go_at_call 49; refine (HSp.out _).mono ?_; rintro e w2 ⟨rfl, hw2⟩; rw [hw2])
          | (go_at_call 50; refine (HD.out _).mono ?_; rintro e w3 ⟨rfl, hw3⟩; rw [hw3]))
        exact ⟨rfl, show anPost none _ from rfl, below_then HB2.out (below_a1 _ _)⟩
      · rw [hok] at HD
        cases han : ansQ (anM (rdecN q) r)
        · obtain rfl : X = none := by rw [HX.out, if_neg (by rw [han]; simp)]
          rw [han] at HAQ
          clear HX hv hok han
          generalize rdecN q = n at *
          go_enter Tryd.func39, Tryd.ntmps39
          go_wp2_with (first
            | (go_at_call 26; refine (refuseIf_any _ _ _).mono ?_; rintro e w9 ⟨rfl, rfl⟩; simp only [refE])
            | (go_at_call 49; refine (HSp.out _).mono ?_; rintro e w2 ⟨rfl, hw2⟩; rw [hw2])
            | (go_at_call 50; refine (HD.out _).mono ?_; rintro e w3 ⟨rfl, hw3⟩; rw [hw3])
            | (go_at_call 51; refine (HAQ.out _).mono ?_; rintro e w4 ⟨rfl, hb4⟩))
          exact ⟨rfl, show anPost none _ from rfl, below_then (below_then HB2.out (below_a1 _ _)) hb4⟩
        · obtain rfl : X = some (rdecN q, r) := by rw [HX.out, if_pos ⟨hv, hok, han⟩]
          rw [han] at HAQ
          clear HX hv hok han
          generalize rdecN q = n at *
          go_enter Tryd.func39, Tryd.ntmps39
          go_wp2_with (first
            | (go_at_call 26; refine (refuseIf_any _ _ _).mono ?_; rintro e w9 ⟨rfl, rfl⟩; simp only [refE])
            | (go_at_call 49; refine (HSp.out _).mono ?_; rintro e w2 ⟨rfl, hw2⟩; rw [hw2])
            | (go_at_call 50; refine (HD.out _).mono ?_; rintro e w3 ⟨rfl, hw3⟩; rw [hw3])
            | (go_at_call 51; refine (HAQ.out _).mono ?_; rintro e w4 ⟨rfl, hb4⟩; have A4 := (A2.out.alloc (.cells #[.string ⟨#[]⟩, .string ⟨#[]⟩, .int .i64 n, .string r, .bool false, .slice none 0 0, .string ⟨#[]⟩] 24)).later hb4; have N4 := (Blk.new ((w.alloc (.cells #[.string ⟨#[]⟩, .string ⟨#[]⟩, .int .i64 0, .string ⟨#[]⟩, .bool false, .slice none 0 0, .string ⟨#[]⟩] 24)).alloc (.cells #[.string p, .string q, .string r] 9)) #[.string ⟨#[]⟩, .string ⟨#[]⟩, .int .i64 n, .string r, .bool false, .slice none 0 0, .string ⟨#[]⟩] 24).later hb4; obtain ⟨y0, y1, y2, y3, y4, y5, y6⟩ := N4.c7; simp at y0 y1 y2 y3 y4 y5 y6; obtain ⟨z0, z1, z2, z3, z4, z5, z6⟩ := A4.c7; obtain ⟨f0, f1, f2, f3, f4, f5, f6⟩ := A4.f7))
          refine bodyPost_ret (results_cellS rfl _ _ _ rfl (A4.set7 _ _ _ _ _ _ _) Tryd.underlying24 Tryd.infoMsg) rfl ⟨show anPost (some (n, r)) _ from rfl, ?_⟩
          exact below_set7 (below_then (below_then HB2.out (below_a1 _ _)) hb4) (Nat.le_refl _) _ _ _ _ _ _ _
    · rw [decide_eq_false hv] at hver
      obtain rfl : X = none := by rw [HX.out, if_neg (fun h => hv h.1)]
      clear HX hv HAQ HD
      go_enter Tryd.func39, Tryd.ntmps39
      go_wp2_with (first
        | (go_at_call 26; refine (refuseIf_any _ _ _).mono ?_; rintro e w9 ⟨rfl, rfl⟩; simp only [refE])
        | (go_at_call 49; refine (HSp.out _).mono ?_; rintro e w2 ⟨rfl, hw2⟩; rw [hw2]))
      exact ⟨rfl, show anPost none _ from rfl, HB2.out⟩
  · obtain rfl : X = none := by rw [← hX]; exact anP_not h2
    have hne : (((prt3 s).length : Int) != 3) = true := by rw [bne_iff_ne]; omega
    clear hX h2 hz
    generalize Lib.cellsOf (prt3 s) (min 3 (s.size + 1)) = arr at *
    generalize (prt3 s).length = cn at *
    generalize min 3 (s.size + 1) = mn at *
    go_enter Tryd.func39, Tryd.ntmps39
    go_wp2_with (first
      | (go_at_call 26; refine (refuseIf_any _ _ _).mono ?_; rintro e w9 ⟨rfl, rfl⟩; simp only [refE])
      | (go_at_call 49; refine (HSp.out _).mono ?_; rintro e w2 ⟨rfl, hw2⟩; rw [hw2]))
    exact ⟨rfl, show anPost none _ from rfl, below_then HB.out (below_a1 _ _)⟩
end Go.Proofs.YtodandipfjamnaaDoor
namespace Go.Proofs.YtodandipfjamnaaDoor
set_option linter.unusedVariables false
set_option linter.unusedSimpArgs false
open Go.RowKit
def flPost (X : Option Fl) (e : Ending) : Prop :=
  match X with
  | some (a, b, n, r) => e = .returned (.agg #[.string a, .string b, .int .i64 n, .string r, .bool false, .slice none 0 0, .string ⟨#[]⟩])
  | none => e = .panicked (gone 400)
theorem split_small (sep : ByteArray) (m : Nat) : ∀ (k : Nat) (s : ByteArray), s.size ≤ m → ∀ x ∈ Lib.splitB sep 0 k s, x.size ≤ m
  | 0, s, hs, x, hx => by
    rw [Lib.splitB_zero] at hx
    simp at hx; subst hx; exact hs
  | k + 1, s, hs, x, hx => by
    unfold Lib.splitB at hx
    split at hx
    · simp at hx; subst hx; exact hs
    · rcases List.mem_cons.1 hx with rfl | hx
      · rw [ByteArray.size_extract]; omega
      · exact split_small sep m k _ (by rw [ByteArray.size_extract]; omega) x hx
set_option maxRecDepth 100000 in
set_option maxHeartbeats 4000000 in
theorem firstLine_any (s : ByteArray) (answer : Bool) (w : World) (hs : s.size ≤ 1048576) (X : Option Fl) (hX : flX answer s = X) :
    Calls Tryd.prog 28 #[.string s, .bool answer] w fun e w' => flPost X e ∧ Below w.heap.size w w' := by
  have HB := hideB2 (below_a1 w (.cells #[.string ⟨#[]⟩, .string ⟨#[]⟩, .int .i64 0, .string ⟨#[]⟩, .bool false, .slice none 0 0, .string ⟨#[]⟩] 24))
  have A1 := hideB2 (Blk.new w #[.string ⟨#[]⟩, .string ⟨#[]⟩, .int .i64 0, .string ⟨#[]⟩, .bool false, .slice none 0 0, .string ⟨#[]⟩] 24)
  cases answer
  · have HR := hideB2 (fun W => requestLine_any s W hs (split_small _ _ _ s hs) _ (rq_same s))
    have hX2 : X = (rqO s).map fun x => (x.1, x.2, 0, ⟨#[]⟩) := hX.symm
    clear hX hs
    generalize rqO s = Y at *
    cases Y with
    | none =>
      obtain rfl : X = none := hX2
      go_enter Tryd.func28, Tryd.ntmps28
      go_wp2_with (go_at_call 40; refine (HR.out _).mono ?_; rintro e w2 ⟨he, hb2⟩; replace he : e = .panicked (gone 400) := he; subst he)
      exact ⟨rfl, show flPost none _ from rfl, below_then HB.out hb2⟩
    | some y =>
      obtain ⟨a, b⟩ := y
      obtain rfl : X = some (a, b, 0, ⟨#[]⟩) := hX2
      go_enter Tryd.func28, Tryd.ntmps28
      go_wp2_with fail
      refine (HR.out _).mono ?_
      rintro e w2 ⟨he, hb2⟩
      replace he : e = .returned (.agg #[.string a, .string b, .int .i64 0, .string ⟨#[]⟩, .bool false, .slice none 0 0, .string ⟨#[]⟩]) := he
      subst he
      have A2 := A1.out.later hb2
      obtain ⟨z0, z1, z2, z3, z4, z5, z6⟩ := A2.c7
      obtain ⟨f0, f1, f2, f3, f4, f5, f6⟩ := A2.f7
      go_wp2
      refine bodyPost_ret (results_cellS rfl _ _ _ rfl (A2.set7 _ _ _ _ _ _ _) Tryd.underlying24 Tryd.infoMsg) rfl ⟨show flPost (some (a, b, 0, ⟨#[]⟩)) _ from rfl, ?_⟩
      exact below_set7 (below_then HB.out hb2) (Nat.le_refl _) _ _ _ _ _ _ _
  · have HR := hideB2 (fun W => answerLine_any s W hs (split_small _ _ _ s hs) _ (an_same s))
    have hX2 : X = (anO s).map fun x => (⟨#[]⟩, ⟨#[]⟩, x.1, x.2) := hX.symm
    clear hX hs
    generalize anO s = Y at *
    cases Y with
    | none =>
      obtain rfl : X = none := hX2
      go_enter Tryd.func28, Tryd.ntmps28
      go_wp2_with (go_at_call 39; refine (HR.out _).mono ?_; rintro e w2 ⟨he, hb2⟩; replace he : e = .panicked (gone 400) := he; subst he)
      exact ⟨rfl, show flPost none _ from rfl, below_then HB.out hb2⟩
    | some y =>
      obtain ⟨n, r⟩ := y
      obtain rfl : X = some (⟨#[]⟩, ⟨#[]⟩, n, r) := hX2
      go_enter Tryd.func28, Tryd.ntmps28
      go_wp2_with fail
      refine (HR.out _).mono ?_
      rintro e w2 ⟨he, hb2⟩
      replace he : e = .returned (.agg #[.string ⟨#[]⟩, .string ⟨#[]⟩, .int .i64 n, .string r, .bool false, .slice none 0 0, .string ⟨#[]⟩]) := he
      subst he
      have A2 := A1.out.later hb2
      obtain ⟨z0, z1, z2, z3, z4, z5, z6⟩ := A2.c7
      obtain ⟨f0, f1, f2, f3, f4, f5, f6⟩ := A2.f7
      go_wp2
      refine bodyPost_ret (results_cellS rfl _ _ _ rfl (A2.set7 _ _ _ _ _ _ _) Tryd.underlying24 Tryd.infoMsg) rfl ⟨show flPost (some (⟨#[]⟩, ⟨#[]⟩, n, r)) _ from rfl, ?_⟩
      exact below_set7 (below_then HB.out hb2) (Nat.le_refl _) _ _ _ _ _ _ _
end Go.Proofs.YtodandipfjamnaaDoor
namespace Go.Proofs.YtodandipfjamnaaDoor
set_option linter.unusedVariables false
set_option linter.unusedSimpArgs false
open Go.RowKit
/-- Where the first ';' stands, or -1. -/
def idxS (s : ByteArray) : Int := Lib.indexByte s.data.toList 59
theorem idxS_some {s : ByteArray} {i : Nat} (h : idxS s = (i : Int)) : i < s.size ∧ at8 s i = 59 ∧ ∀ j, j < i → at8 s j ≠ 59 := by
  obtain ⟨h1, h2⟩ := Lib.indexByte_some h
  have hi : i < s.data.toList.length := (List.getElem?_eq_some_iff.1 h1).1
  rw [len_data] at hi
  refine ⟨hi, by unfold at8; rw [List.getD, h1]; rfl, fun j hj he => h2 j hj ?_⟩
  have hj' : j < s.data.toList.length := by rw [len_data]; omega
  unfold at8 at he
  rw [List.getD, List.getElem?_eq_getElem hj'] at he
  rw [List.getElem?_eq_getElem hj']
  simpa using he
theorem idxS_none {s : ByteArray} (h : idxS s = -1) : ∀ j, j < s.size → at8 s j ≠ 59 := by
  intro j hj he
  have hj' : j < s.data.toList.length := by rw [len_data]; omega
  refine Lib.indexByte_none h j ?_
  unfold at8 at he
  rw [List.getD, List.getElem?_eq_getElem hj'] at he
  rw [List.getElem?_eq_getElem hj']
  simpa using he
theorem idxS_cases (s : ByteArray) : idxS s = -1 ∨ ∃ i : Nat, idxS s = (i : Int) ∧ i < s.size := by
  have h := Lib.indexByte_ge s.data.toList 59
  by_cases h1 : idxS s = -1
  · exact .inl h1
  · right
    have h2 : -1 ≤ idxS s := h
    have h3 : idxS s = ((idxS s).toNat : Int) := by omega
    exact ⟨(idxS s).toNat, h3, (idxS_some h3).1⟩
theorem idxS_of {s : ByteArray} {i : Nat} (h1 : i < s.size) (h2 : at8 s i = 59) (h3 : ∀ j, j < i → at8 s j ≠ 59) : idxS s = (i : Int) := by
  rcases idxS_cases s with h | ⟨k, hk, _⟩
  · exact absurd h2 (idxS_none h i h1)
  · obtain ⟨g1, g2, g3⟩ := idxS_some hk
    rcases Nat.lt_trichotomy k i with h | h | h
    · exact absurd g2 (h3 k h)
    · rw [hk, h]
    · exact absurd h2 (g3 i h)
end Go.Proofs.YtodandipfjamnaaDoor
namespace Go.Proofs.YtodandipfjamnaaDoor
set_option linter.unusedVariables false
set_option linter.unusedSimpArgs false
open Go.RowKit

/-- The value of a digit of sixteen, -1 for any other byte. -/
def hexV (n : Int) : Int := if digP n = true then n - 48 else if 97 ≤ lowI n ∧ lowI n ≤ 102 then lowI n - 87 else -1
def hex8 (b : UInt8) : Int := hexV (b.toNat : Int)
def hval (l : List UInt8) : Int := l.foldl (fun n b => n * 16 + hex8 b) 0
def allHex (l : List UInt8) : Bool := l.all fun b => decide (0 ≤ hex8 b)
def rhexOk (s : ByteArray) : Bool := decide (0 < s.size) && decide (s.size ≤ 7) && allHex s.data.toList
def rhexN (s : ByteArray) : Int := if rhexOk s = true then hval s.data.toList else 0

theorem digP_iff {n : Int} : digP n = true ↔ 48 ≤ n ∧ n ≤ 57 := by unfold digP; simp
theorem hexV_dig {n : Int} (h : digP n = true) : hexV n = n - 48 := by unfold hexV; rw [if_pos h]
theorem hexV_let {n : Int} (h : digP n = false) (h1 : 97 ≤ lowI n) (h2 : lowI n ≤ 102) : hexV n = lowI n - 87 := by
  unfold hexV; rw [if_neg (by simp [h]), if_pos ⟨h1, h2⟩]
theorem hexV_no {n : Int} (h : digP n = false) (h1 : lowI n < 97 ∨ 102 < lowI n) : hexV n = -1 := by
  unfold hexV; rw [if_neg (by simp [h]), if_neg (by omega)]
theorem hexV_bd (n : Int) : -1 ≤ hexV n ∧ hexV n ≤ 15 := by
  unfold hexV
  split
  · rename_i h; rw [digP_iff] at h; omega
  · split <;> omega
theorem digP_low (n : Int) (h0 : 0 ≤ n) : digP (lowI n) = digP n := by
  unfold digP lowI
  by_cases h : 65 ≤ n ∧ n ≤ 90
  · rw [if_pos h]
    have h1 : ¬ n ≤ 57 := by omega
    have h2 : ¬ n + 32 ≤ 57 := by omega
    simp [h1, h2]
  · rw [if_neg h]
theorem lowI_dig {n : Int} (h : digP n = true) : lowI n = n := by
  rw [digP_iff] at h; unfold lowI; rw [if_neg (by omega)]
theorem hval_snoc (l : List UInt8) (b : UInt8) : hval (l ++ [b]) = hval l * 16 + hex8 b := by simp [hval]
theorem hval_bd (l : List UInt8) (h : allHex l = true) : 0 ≤ hval l ∧ hval l < 16 ^ l.length := by
  revert h
  refine snoc_ind (p := fun l => allHex l = true → 0 ≤ hval l ∧ hval l < 16 ^ l.length) ?_ ?_ l
  · intro _; simp [hval]
  · intro q b ih h
    have hq : allHex q = true := by unfold allHex at h ⊢; rw [List.all_append] at h; simp at h; simpa using h.1
    have hb : 0 ≤ hex8 b := by unfold allHex at h; rw [List.all_append] at h; simp at h; exact h.2
    have hb2 := (hexV_bd (b.toNat : Int)).2
    have := ih hq
    have hb3 : hex8 b ≤ 15 := hb2
    rw [hval_snoc, List.length_append, List.length_singleton, Int.pow_succ]
    omega
theorem allHex_snoc (l : List UInt8) (b : UInt8) (h : allHex l = true) (hb : 0 ≤ hex8 b) : allHex (l ++ [b]) = true := by
  unfold allHex at *
  rw [List.all_append, h]
  simp [hb]
theorem allHex_no (s : ByteArray) (k : Nat) (hk : k < s.size) (h : hex8 (at8 s k) < 0) : allHex s.data.toList = false := by
  have hl : k < s.data.toList.length := by rw [len_data]; exact hk
  unfold allHex
  rw [List.all_eq_false]
  refine ⟨s.data.toList[k], List.getElem_mem hl, ?_⟩
  simp [at8, List.getD, List.getElem?_eq_getElem hl] at h
  simpa using h
theorem rhex_size {s : ByteArray} (h : s.size = 0 ∨ 7 < s.size) : rhexN s = 0 ∧ rhexOk s = false := by
  have : rhexOk s = false := by
    unfold rhexOk
    rcases h with h | h
    · simp [h]
    · simp [show ¬ s.size ≤ 7 by omega]
  exact ⟨by simp [rhexN, this], this⟩
theorem rhex_no {s : ByteArray} {k : Nat} (hk : k < s.size) (h : hex8 (at8 s k) < 0) : rhexN s = 0 ∧ rhexOk s = false := by
  have : rhexOk s = false := by unfold rhexOk; simp [allHex_no s k hk h]
  exact ⟨by simp [rhexN, this], this⟩
theorem rhex_yes {s : ByteArray} (h0 : 0 < s.size) (h1 : s.size ≤ 7) (h : allHex s.data.toList = true) : rhexN s = hval s.data.toList ∧ rhexOk s = true := by
  have : rhexOk s = true := by unfold rhexOk; simp [h0, h1, h]
  exact ⟨by simp [rhexN, this], this⟩
theorem hval_small (s : ByteArray) (k : Nat) (hk : k ≤ 7) (h : allHex (s.data.toList.take k) = true) : 0 ≤ hval (s.data.toList.take k) ∧ hval (s.data.toList.take k) < 268435456 := by
  have h1 := hval_bd _ h
  have h2 : (s.data.toList.take k).length ≤ 7 := by simp; omega
  have h3' : (16 : Nat) ^ (s.data.toList.take k).length ≤ 16 ^ 7 := Nat.pow_le_pow_right (by decide) h2
  have h3 : (16 : Int) ^ (s.data.toList.take k).length ≤ 16 ^ 7 := by exact_mod_cast h3'
  have h4 : (16 : Int) ^ 7 = 268435456 := by decide
  omega
end Go.Proofs.YtodandipfjamnaaDoor
namespace Go.Proofs.YtodandipfjamnaaDoor
set_option linter.unusedVariables false
set_option linter.unusedSimpArgs false
open Go.RowKit

/-- What TakeN answers. -/
def tnOk (s : ByteArray) (n m : Int) : Bool := curOk s n && decide (0 ≤ m) && decide (m ≤ (s.size : Int) - n)
def tnV (s : ByteArray) (n m : Int) : Value := if tnOk s n m = true then .tuple #[.string (s.extract n.toNat (n.toNat + m.toNat)), .agg #[.string s, .int .i64 (n + m)], .bool true] else .tuple #[.string ⟨#[]⟩, curZ, .bool false]
theorem tnV_no {s : ByteArray} {n m : Int} (h : tnOk s n m = false) : tnV s n m = .tuple #[.string ⟨#[]⟩, curZ, .bool false] := by simp [tnV, h]
theorem tnV_yes {s : ByteArray} {k m : Nat} (h : k + m ≤ s.size) : tnV s (k : Int) (m : Int) = .tuple #[.string (s.extract k (k + m)), .agg #[.string s, .int .i64 ((k : Int) + m)], .bool true] := by
  have : tnOk s (k : Int) (m : Int) = true := by
    unfold tnOk
    simp [curOk]
    omega
  unfold tnV
  rw [if_pos this, Int.toNat_natCast, Int.toNat_natCast]

end Go.Proofs.YtodandipfjamnaaDoor
namespace Go.Proofs.YtodandipfjamnaaDoor
set_option linter.unusedVariables false
set_option linter.unusedSimpArgs false
open Go.RowKit
/-- A line of a chunked body may be taken. -/
def lnQ (s : ByteArray) (k : Nat) : Bool := decide (tlC s k = 0) && decide (tlE s k - k ≤ 300)
theorem lnQ_iff {s : ByteArray} {k : Nat} : lnQ s k = true ↔ tlC s k = 0 ∧ tlE s k - k ≤ 300 := by unfold lnQ; simp
/-- What stands ahead of the first ';'. -/
def uptoS (s : ByteArray) : ByteArray := if idxS s = -1 then s else s.extract 0 (idxS s).toNat
theorem uptoS_none {s : ByteArray} (h : idxS s = -1) : uptoS s = s := by unfold uptoS; rw [if_pos h]
theorem uptoS_some {s : ByteArray} {i : Nat} (h : idxS s = (i : Int)) : uptoS s = s.extract 0 i := by
  unfold uptoS; rw [if_neg (by omega), h, Int.toNat_natCast]
theorem uptoS_size (s : ByteArray) : (uptoS s).size ≤ s.size := by
  unfold uptoS
  split
  · exact Nat.le_refl _
  · rw [ByteArray.size_extract]; omega
/-- Where the lines behind the last chunk end. -/
def trE (s : ByteArray) : Nat → Nat → Option Nat
  | 0, _ => none
  | n + 1, k => if lnQ s k = true then (if tlE s k = k then some (k + 2) else if readO (lineAt s k) = true then trE s n (tlE s k + 2) else none) else none
/-- So many bytes stand at p, and CRLF behind them. -/
def datQ (s : ByteArray) (p z : Nat) : Bool := decide (p + z + 2 ≤ s.size) && eqB (s.extract (p + z) (p + z + 2)) ⟨#[13, 10]⟩
def ckR (s : ByteArray) : Nat → Nat → ByteArray → Except Int ByteArray
  | 0, _, _ => .error 400
  | n + 1, k, body =>
    if lnQ s k = false then .error 400
    else if rhexOk (uptoS (lineAt s k)) = false then .error 400
    else if 600 < (body.size : Int) + rhexN (uptoS (lineAt s k)) then .error 413
    else if rhexN (uptoS (lineAt s k)) = 0 then (if trE s 21 (tlE s k + 2) = some s.size then .ok body else .error 400)
    else if datQ s (tlE s k + 2) (rhexN (uptoS (lineAt s k))).toNat = true then ckR s n (tlE s k + 2 + (rhexN (uptoS (lineAt s k))).toNat + 2) (body ++ s.extract (tlE s k + 2) (tlE s k + 2 + (rhexN (uptoS (lineAt s k))).toNat))
    else .error 400
def ckX (s : ByteArray) : Except Int ByteArray := ckR s 601 0 ⟨#[]⟩
def exB : Except Int ByteArray → ByteArray
  | .ok b => b
  | .error _ => ⟨#[]⟩
def exC {α : Type} : Except Int α → Int
  | .ok _ => 0
  | .error c => c
theorem ck_bad1 {s : ByteArray} {n k : Nat} {body : ByteArray} (h : lnQ s k = false) : ckR s (n + 1) k body = .error 400 := by
  rw [ckR, if_pos h]
theorem ck_bad2 {s : ByteArray} {n k : Nat} {body : ByteArray} (h0 : lnQ s k = true) (h : rhexOk (uptoS (lineAt s k)) = false) : ckR s (n + 1) k body = .error 400 := by
  rw [ckR, if_neg (by rw [h0]; simp), if_pos h]
theorem ck_bad3 {s : ByteArray} {n k : Nat} {body : ByteArray} (h0 : lnQ s k = true) (h1 : rhexOk (uptoS (lineAt s k)) = true) (h : 600 < (body.size : Int) + rhexN (uptoS (lineAt s k))) : ckR s (n + 1) k body = .error 413 := by
  rw [ckR, if_neg (by rw [h0]; simp), if_neg (by rw [h1]; simp), if_pos h]
theorem ck_end {s : ByteArray} {n k : Nat} {body : ByteArray} (h0 : lnQ s k = true) (h1 : rhexOk (uptoS (lineAt s k)) = true) (h2 : ¬ 600 < (body.size : Int) + rhexN (uptoS (lineAt s k))) (h : rhexN (uptoS (lineAt s k)) = 0) : ckR s (n + 1) k body = if trE s 21 (tlE s k + 2) = some s.size then .ok body else .error 400 := by
  rw [ckR, if_neg (by rw [h0]; simp), if_neg (by rw [h1]; simp), if_neg h2, if_pos h]
theorem ck_bad4 {s : ByteArray} {n k z : Nat} {body : ByteArray} (h0 : lnQ s k = true) (h1 : rhexOk (uptoS (lineAt s k)) = true) (h2 : ¬ 600 < (body.size : Int) + rhexN (uptoS (lineAt s k))) (hz : rhexN (uptoS (lineAt s k)) = (z : Int)) (h3 : z ≠ 0) (h : datQ s (tlE s k + 2) z = false) : ckR s (n + 1) k body = .error 400 := by
  rw [ckR, if_neg (by rw [h0]; simp), if_neg (by rw [h1]; simp), if_neg h2, if_neg (by rw [hz]; omega), hz, Int.toNat_natCast, if_neg (by rw [h]; simp)]
theorem ck_next {s : ByteArray} {n k z : Nat} {body : ByteArray} (h0 : lnQ s k = true) (h1 : rhexOk (uptoS (lineAt s k)) = true) (h2 : ¬ 600 < (body.size : Int) + rhexN (uptoS (lineAt s k))) (hz : rhexN (uptoS (lineAt s k)) = (z : Int)) (h3 : z ≠ 0) (h : datQ s (tlE s k + 2) z = true) : ckR s (n + 1) k body = ckR s n (tlE s k + 2 + z + 2) (body ++ s.extract (tlE s k + 2) (tlE s k + 2 + z)) := by
  rw [ckR, if_neg (by rw [h0]; simp), if_neg (by rw [h1]; simp), if_neg h2, if_neg (by rw [hz]; omega), hz, Int.toNat_natCast, if_pos h]
theorem trE_bad {s : ByteArray} {n k : Nat} (h : lnQ s k = false) : trE s (n + 1) k = none := by rw [trE, if_neg (by rw [h]; simp)]
theorem trE_end {s : ByteArray} {n k : Nat} (h : lnQ s k = true) (h1 : tlE s k = k) : trE s (n + 1) k = some (k + 2) := by rw [trE, if_pos h, if_pos h1]
theorem trE_no {s : ByteArray} {n k : Nat} (h : lnQ s k = true) (h1 : tlE s k ≠ k) (h2 : readO (lineAt s k) = false) : trE s (n + 1) k = none := by rw [trE, if_pos h, if_neg h1, if_neg (by rw [h2]; simp)]
theorem trE_next {s : ByteArray} {n k : Nat} (h : lnQ s k = true) (h1 : tlE s k ≠ k) (h2 : readO (lineAt s k) = true) : trE s (n + 1) k = trE s n (tlE s k + 2) := by rw [trE, if_pos h, if_neg h1, if_pos h2]
theorem lnQ_no {s : ByteArray} {k : Nat} (h : tlC s k ≠ 0) : lnQ s k = false := by unfold lnQ; simp [h]
theorem rhexN_bd (s : ByteArray) : 0 ≤ rhexN s ∧ rhexN s ≤ 268435455 := by
  unfold rhexN
  split
  · rename_i h
    unfold rhexOk at h
    rw [Bool.and_eq_true, Bool.and_eq_true, decide_eq_true_eq, decide_eq_true_eq] at h
    have h1 := hval_bd _ h.2
    have h2 : s.data.toList.length ≤ 7 := by rw [len_data]; exact h.1.2
    have h3 : (16 : Int) ^ s.data.toList.length ≤ 16 ^ 7 := by
      have : (16 : Nat) ^ s.data.toList.length ≤ 16 ^ 7 := Nat.pow_le_pow_right (by decide) h2
      exact_mod_cast this
    have h4 : (16 : Int) ^ 7 = 268435456 := by decide
    omega
  · omega
end Go.Proofs.YtodandipfjamnaaDoor
namespace Go.Proofs.YtodandipfjamnaaDoor
set_option linter.unusedVariables false
set_option linter.unusedSimpArgs false
open Go.RowKit

end Go.Proofs.YtodandipfjamnaaDoor
namespace Go.Proofs.YtodandipfjamnaaDoor
set_option linter.unusedVariables false
set_option linter.unusedSimpArgs false
open Go.RowKit

theorem ret_ib6 {k : IntKind} {n m : Int} {a b : Bool} (h : m = n) (h' : b = a) : Ending.returned (.tuple #[.int k n, .bool a]) = .returned (.tuple #[.int k m, .bool b]) := by rw [h, h']
theorem hexV_neg {n : Int} (h : hexV n < 0) : digP n = false ∧ (lowI n < 97 ∨ 102 < lowI n) := by
  unfold hexV at h
  split at h
  · rename_i hd; rw [digP_iff] at hd; omega
  · rename_i hd
    split at h
    · omega
    · exact ⟨by simpa using hd, by omega⟩
theorem hexV_pos {n : Int} (h : 0 ≤ hexV n) : (digP n = true ∧ hexV n = n - 48) ∨ (digP n = false ∧ 97 ≤ lowI n ∧ lowI n ≤ 102 ∧ hexV n = lowI n - 87) := by
  cases hd : digP n
  · right
    by_cases hl : 97 ≤ lowI n ∧ lowI n ≤ 102
    · exact ⟨rfl, hl.1, hl.2, hexV_let hd hl.1 hl.2⟩
    · rw [hexV_no hd (by omega)] at h; omega
  · left; exact ⟨rfl, hexV_dig hd⟩
end Go.Proofs.YtodandipfjamnaaDoor
namespace Go.Proofs.YtodandipfjamnaaDoor
set_option linter.unusedVariables false
set_option linter.unusedSimpArgs false
open Go.RowKit
set_option maxRecDepth 100000 in
set_option maxHeartbeats 2000000 in
theorem takenField_bad (s : ByteArray) (w : World) (hs : s.size ≤ maxLen) (h : readO s = false) :
    Calls Tryd.prog 29 #[.string s] w fun e w' => e = .panicked (gone 400) ∧ Below w.heap.size w w' := by
  have HB := hideB2 (below_a1 w (.cells #[.string ⟨#[]⟩, .string ⟨#[]⟩] 37))
  have HR := hideB2 (fun W => ReadField_any s W hs)
  rw [h] at HR
  clear h hs
  generalize (readF s).1 = x at *
  generalize (readF s).2 = y at *
  go_enter Tryd.func29, Tryd.ntmps29
  go_wp2_with (first | (go_at_call 41; refine (HR.out _).mono ?_; rintro e w2 ⟨rfl, hb2⟩) | (go_at_call 26; refine (refuseIf_any _ _ _).mono ?_; rintro e w9 ⟨rfl, rfl⟩; simp only [refE]))
  exact ⟨rfl, rfl, below_then (below_then HB.out hb2) (below_a1 _ _)⟩
set_option maxRecDepth 100000 in
set_option maxHeartbeats 2000000 in
theorem takenField_ok (s : ByteArray) (w : World) (hs : s.size ≤ maxLen) (h : readO s = true) :
    Calls Tryd.prog 29 #[.string s] w fun e w' => e = .returned (.agg #[.string (readF s).1, .string (readF s).2]) ∧ Below w.heap.size w w' := by
  have HB := hideB2 (below_a1 w (.cells #[.string ⟨#[]⟩, .string ⟨#[]⟩] 37))
  have A1 := hideB2 (Blk.new w #[.string ⟨#[]⟩, .string ⟨#[]⟩] 37)
  have HR := hideB2 (fun W => ReadField_any s W hs)
  rw [h] at HR
  clear h hs
  generalize (readF s).1 = x at *
  generalize (readF s).2 = y at *
  go_enter Tryd.func29, Tryd.ntmps29
  go_wp2_with fail
  refine (HR.out _).mono ?_
  rintro e w2 ⟨rfl, hb2⟩
  have A3 := A1.out.later hb2
  have hlt := A3.lt
  obtain ⟨p0, p1⟩ := A3.c2
  have f0 := A3.free 0
  have f1 := A3.free 1
  have HA3 := hideB2 A3
  have HB2 := hideB2 (below_then HB.out hb2)
  clear A3 hb2
  go_wp2_with (go_at_call 26; refine (refuseIf_any _ _ _).mono ?_; rintro e w9 ⟨rfl, rfl⟩; simp only [refE])
  refine bodyPost_ret (results_cellS rfl _ _ _ rfl ((HA3.out.set2 _ _).alloc _) Tryd.underlying37 Tryd.infoField) rfl ⟨rfl, ?_⟩
  exact below_alloc' (below_set2 HB2.out (Nat.le_refl _) _ _) (Nat.le_refl _) _
end Go.Proofs.YtodandipfjamnaaDoor
namespace Go.Proofs.YtodandipfjamnaaDoor
set_option linter.unusedVariables false
set_option linter.unusedSimpArgs false
open Go.RowKit Go.Maps
/-- The value v is a slice of the call's own, from block B on, that holds the fields l. -/
structure OwF (B : Nat) (w : World) (v : Value) (l : List Fd) : Prop where
  own : w.ownsRow B 37 2 v l.length (cellsF l)
  le : B ≤ w.heap.size
theorem OwF.start {B : Nat} {w : World} (h : B ≤ w.heap.size) : OwF B w (.slice none 0 0) [] := ⟨World.ownsRow_nil _ _ _ _, h⟩
theorem OwF.alloc {B : Nat} {w : World} {v : Value} {l : List Fd} (h : OwF B w v l) (o : Obj) : OwF B (w.alloc o) v l := ⟨h.own.alloc o, by have := h.le; simp; omega⟩
theorem OwF.form {B : Nat} {w : World} {v : Value} {l : List Fd} (h : OwF B w v l) : ∃ (a : Option Addr) (c : Nat), v = .slice a l.length c := by
  rcases h.own.2 with ⟨h1, h2⟩ | ⟨g, cap, cur, h1, _⟩
  · exact ⟨none, 0, by rw [h1, h2]⟩
  · exact ⟨_, _, h1⟩
theorem OwF.later {B : Nat} {w w' : World} {v : Value} {l : List Fd} (h : OwF B w v l) (hb : Below w.heap.size w w') : OwF B w' v l := by
  refine ⟨?_, Nat.le_trans h.le hb.size⟩
  exact h.own.kept (row := none) ⟨hb.os, hb.tape, hb.output, hb.size, fun k hk _ => hb.block k hk⟩ (by
    cases hv : v.ownBlock with
    | none => exact Or.inl rfl
    | some g => exact Or.inr (by intro e; cases e))
theorem OwF.drew {B : Nat} {w : World} {v : Value} {l : List Fd} (h : OwF B w v l) : OwF B w.drew v l := h.later (Below.refl _ w).drew
/-- A store into an elder block. -/
theorem OwF.set {B : Nat} {w : World} {v : Value} {l : List Fd} (h : OwF B w v l) {g : Nat} (hg : g < B) (k : Nat) (x : Value) : OwF B (w.setCell ⟨g, k, none⟩ x) v l :=
  ⟨ownsRow_setCell_below h.own hg x, by simpa [World.setCell] using h.le⟩
theorem OwF.set7 {B : Nat} {w : World} {v : Value} {l : List Fd} (h : OwF B w v l) {g : Nat} (hg : g < B) (x0 x1 x2 x3 x4 x5 x6 : Value) : OwF B (((((((w.setCell ⟨g, 0, none⟩ x0).setCell ⟨g, 1, none⟩ x1).setCell ⟨g, 2, none⟩ x2).setCell ⟨g, 3, none⟩ x3).setCell ⟨g, 4, none⟩ x4).setCell ⟨g, 5, none⟩ x5).setCell ⟨g, 6, none⟩ x6) v l :=
  ((((((h.set hg 0 x0).set hg 1 x1).set hg 2 x2).set hg 3 x3).set hg 4 x4).set hg 5 x5).set hg 6 x6
theorem OwF.sl {B : Nat} {w : World} {v : Value} {l : List Fd} (h : OwF B w v l) : SlF w v l := by
  have ho := h.own
  rcases h.own.2 with ⟨h1, h2⟩ | ⟨g, cap, cur, h1, hg, hh, _⟩
  · exact .inl ⟨h1, List.eq_nil_of_length_eq_zero h2⟩
  · have hlt := (h.own.lt g (by rw [h1]; rfl)).2
    rw [h1] at ho
    refine .inr ⟨g, cap, h1, ⟨fun j hj => ?_, fun j hj => ?_, fun j => ho.frozenAt j, hlt⟩⟩
    · rw [ho.cellAt (j * 2) (by omega)]; exact (cellsF_at l j hj).1
    · rw [ho.cellAt (j * 2 + 1) (by omega)]; exact (cellsF_at l j hj).2
theorem wp_fapp2 {ops : Array Oper} {rest : List Oper} {o : Oper} {a : Act} {Q : Exit → Act → World → Prop} {B : Nat} {W : World} (hgd : o.guard = none) (s x : Operand)
    (ho : o.op = .call { callee := .builtin .append, args := #[s, x], argTypes := #[22, 22] }) (v : Value) (l : List Fd) (hs : a.eval s = v) (hbuf : OwF B W v l)
    (d t : ByteArray) (nW : Nat) (hnW : W.heap.size = nW) (hx : a.eval x = .slice (some ⟨nW, 0, none⟩) 1 1) (hlen : l.length ≤ 1048576)
    (h : ∀ v' W', OwF B W' v' (l ++ [(d, t)]) → Below B W W' → (∀ g c t, v.ownBlock ≠ some g → Blk W g c t → Blk W' g c t) → wpList Tryd.prog ops Q rest (a.put o.dst v') W') :
    wpList Tryd.prog ops Q (o :: rest) a (W.alloc (.cells #[.string d, .string t] 37)) := by
  subst hnW
  obtain ⟨i0, hi, hz0, hz1, hz2⟩ := info_parts Tryd.infoF
  refine wpList_append_own _ hgd s x 22 ho B 37 i0 _ 2 32 Tryd.underlying22 hi hz0 hz1 hz2 rfl (by decide) v l.length (cellsF l) hs (hbuf.own.alloc _) ⟨W.heap.size, 0, none⟩ 1 1 (cellsF [(d, t)]) hx (by rw [cellsF_len]; rfl) ?_ (cellsF_one _) (by unfold maxLen; omega) (by omega) (by have := hbuf.le; simp; omega) ?_
  · intro j u hu
    have hj : j < 2 := by have := (List.getElem?_eq_some_iff.1 hu).1; rwa [cellsF_len] at this
    rw [Addr.add_lit, Nat.zero_add, (Blk.new W _ _).cell j, ← hu]
    rcases j with _ | _ | j
    · rfl
    · rfl
    · omega
  intro v' W' hown hgrow _
  have hbl : Below B W W' := by
    refine ((Below.refl B W).alloc hbuf.le _).grown hgrow (by have := hbuf.le; simp; omega) ?_
    intro k hk
    exact (hbuf.own.lt k hk).1
  refine h v' W' ⟨?_, Nat.le_trans hbuf.le hbl.size⟩ hbl (fun g c tt hne hB => ?_)
  rotate_left
  · have h1 := hB.alloc (.cells #[.string d, .string t] 37)
    have hl := h1.lt
    unfold Blk at *
    rw [hgrow.block g hl (fun e => hne e.symm)]; exact h1
  rw [List.length_append, List.length_singleton, cellsF_app]
  exact hown
/-- append(x, f) inside a region that draws: f lies in block N. -/
theorem step_fapp2 {ops : Array Oper} {o : Oper} {a : Act} {W : World} {K : Act → World → Prop} {Q : Exit → Act → World → Prop} {E : Prop} (hgd : o.guard = none) (s x : Operand)
    (ho : o.op = .call { callee := .builtin .append, args := #[s, x], argTypes := #[22, 22] }) (B : Nat) (v : Value) (l : List Fd) (hs : a.eval s = v) (hbuf : OwF B W v l) (N : Nat) (d t : ByteArray)
    (hx : a.eval x = .slice (some ⟨N, 0, none⟩) 1 1) (hN : Blk W N #[.string d, .string t] 37) (hlen : l.length ≤ 20)
    (k : ∀ v' W', OwF B W' v' (l ++ [(d, t)]) → Below B W W' → K (a.put o.dst v') W') :
    if Region.wanted o (yielded ops a.tmps) = true then Oper.wp Tryd.prog o a W K Q else E := by
  obtain ⟨i0, hi, hz0, hz1, hz2⟩ := info_parts Tryd.infoF
  refine step_append_lies W hgd s x 22 ho B 37 i0 _ 2 32 Tryd.underlying22 hi hz0 hz1 hz2 rfl (by decide) v l.length (cellsF l) hs hbuf.own ⟨N, 0, none⟩ 1 1 (cellsF [(d, t)]) hx (by rw [cellsF_len]; rfl) ?_ (cellsF_one _) (by omega) (by unfold maxLen; omega) (by omega) hbuf.le _ rfl ?_
  · intro j u hu
    have hj : j < 2 := by have := (List.getElem?_eq_some_iff.1 hu).1; rwa [cellsF_len] at this
    rw [Addr.add_lit, Nat.zero_add, hN.cell j, ← hu]
    rcases j with _ | _ | j
    · rfl
    · rfl
    · omega
  intro g cap w' hown hgrow _ _
  have hbl : Below B W w' := by
    refine (Below.refl B W).grown hgrow hbuf.le ?_
    intro j hj
    exact (hbuf.own.lt j hj).1
  refine k _ w' ⟨?_, Nat.le_trans hbuf.le hbl.size⟩ hbl
  rw [List.length_append, List.length_singleton, cellsF_app]
  exact hown
theorem OwF.buf {B : Nat} {w0 w : World} {v : Value} {l : List Fd} (h : OwF B w v l) (hB : w0.heap.size ≤ B) (hb : Below w0.heap.size w0 w) : BufF w0 w v l := by
  refine ⟨hb, h.own.1, ?_⟩
  rcases h.own.2 with h2 | ⟨g, cap, cur, h1, hg, r⟩
  · exact .inl h2
  · exact .inr ⟨g, cap, cur, h1, Nat.le_trans hB hg, r⟩
theorem OwF.ne {B : Nat} {w : World} {v : Value} {l : List Fd} (h : OwF B w v l) {g : Nat} (hg : v.ownBlock = some g) : B ≤ g := (h.own.lt g hg).1
end Go.Proofs.YtodandipfjamnaaDoor
namespace Go.Proofs.YtodandipfjamnaaDoor
set_option linter.unusedVariables false
set_option linter.unusedSimpArgs false
open Go.RowKit
def hdPost (w : World) (X : Except Int (Fl × List Fd × Nat)) (e : Ending) (w' : World) : Prop :=
  match X with
  | .ok ((a, b, n, r), fs, m) => ∃ v, e = .returned (.tuple #[.agg #[.string a, .string b, .int .i64 n, .string r, .bool false, v, .string ⟨#[]⟩], .int .i64 (m : Int)]) ∧ BufF w w' v fs
  | .error c => e = .panicked (gone c) ∧ Below w.heap.size w w'
/-- How many fields a message holds that lies at g. -/
def fldLen (g : Nat) (w : World) : Nat :=
  match w.cell? ⟨g, 5, none⟩ with
  | some (.slice _ n _) => n
  | _ => 0
set_option maxRecDepth 100000 in
set_option maxHeartbeats 16000000 in
theorem takenHead_any (s : ByteArray) (answer : Bool) (w : World) (hs : s.size ≤ 1048576) (X : Except Int (Fl × List Fd × Nat)) (hX : hdX answer s = X) :
    Calls Tryd.prog 15 #[.string s, .bool answer] w fun e w' => hdPost w X e w' := by
  have HB := hideB2 (below_a1 w (.cells #[.string ⟨#[]⟩, .string ⟨#[]⟩, .int .i64 0, .string ⟨#[]⟩, .bool false, .slice none 0 0, .string ⟨#[]⟩] 24))
  have A1 := hideB2 (Blk.new w #[.string ⟨#[]⟩, .string ⟨#[]⟩, .int .i64 0, .string ⟨#[]⟩, .bool false, .slice none 0 0, .string ⟨#[]⟩] 24)
  have hsm : s.size ≤ maxLen := by unfold maxLen; omega
  by_cases h1 : (4000 : Int) < (s.size : Int)
  · obtain rfl : X = .error 413 := by rw [← hX]; unfold hdX; rw [if_pos (by omega)]
    clear hX
    go_enter Tryd.func15, Tryd.ntmps15
    go_wp2
    go_step3
    go_wp2_with (go_at_call 26; refine (refuseIf_any _ _ _).mono ?_; rintro e w9 ⟨rfl, rfl⟩; simp only [refE])
    exact ⟨rfl, show hdPost w (.error 413) _ _ from ⟨rfl, HB.out⟩⟩
  · have d1 : decide ((4000 : Int) < (s.size : Int)) = false := decide_eq_false h1
    by_cases h2 : hlC s 0 = 0
    · have HL := hideB2 (fun W => headLine_ok s 0 W hsm (Nat.zero_le _) h2)
      have hE := tlE_ok (Nat.zero_le _) (hlC_zero h2).1
      have hz := lineAt_size (s := s) (k := 0) (Nat.zero_le _)
      have hZN := fun h => hdZ_none (answer := answer) (s := s) h
      have hZB := fun (x : Fl) c h h2 => hdZ_bad (answer := answer) (s := s) (x := x) (c := c) h h2
      have hZO := fun (x : Fl) fs m h h2 => hdZ_ok (answer := answer) (s := s) (x := x) (fs := fs) (n := m) h h2
      rw [hdX_go (by omega) h2] at hX
      have HFL := hideB2 (fun W => firstLine_any (lineAt s 0) answer W (by omega) _ rfl)
      have HS := hideB2 hsm
      clear h2 hz hs hsm
      rw [show ((0 : Nat) : Int) = 0 from rfl] at HL
      cases hFX : flX answer (lineAt s 0) with
      | none =>
        rw [hFX] at HFL
        obtain rfl : X = .error 400 := by rw [← hX]; exact hZN hFX
        clear hX hZN hZB hZO hFX
        generalize lineAt s 0 = L at *
        generalize tlE s 0 = E at *
        go_enter Tryd.func15, Tryd.ntmps15
        go_wp2
        go_step3
        go_wp2_with (first
          | (go_at_call 26; refine (refuseIf_any _ _ _).mono ?_; rintro e w9 ⟨rfl, rfl⟩; simp only [refE])
          | (go_at_call 27; refine (HL.out _).mono ?_; rintro e w2 ⟨rfl, hb2⟩)
          | (go_at_call 28; refine (HFL.out _).mono ?_; rintro e w3 ⟨he, hb3⟩; replace he : e = .panicked (gone 400) := he; subst he))
        exact ⟨rfl, show hdPost w (.error 400) _ _ from ⟨rfl, below_then (below_then (below_then HB.out hb2) (below_a1 _ _)) hb3⟩⟩
      | some h =>
        obtain ⟨a, b, n, r⟩ := h
        rw [hFX] at HFL
        generalize hY : lnR s 21 (tlE s 0 + 2) [] = Y at *
        have HY := hideB2 hY
        have HXB := hideB2 (fun c (h : Y = .error c) => (hX.symm.trans (hZB _ c hFX h) : X = .error c))
        have HXO := hideB2 (fun fs m (h : Y = .ok (fs, m)) => (hX.symm.trans (hZO _ fs m hFX h) : X = .ok ((a, b, n, r), fs, m)))
        clear hY hX hZN hZB hZO hFX
        generalize lineAt s 0 = L at *
        have HE := hideB2 hE
        have hcast : (tlE s 0 : Int) + 2 = ((tlE s 0 + 2 : Nat) : Int) := by omega
        rw [hcast] at HL
        clear hcast hE
        generalize tlE s 0 + 2 = K0 at *
        go_enter Tryd.func15, Tryd.ntmps15
        go_wp2
        go_step3
        go_wp2_with (first
          | (go_at_call 26; refine (refuseIf_any _ _ _).mono ?_; rintro e w9 ⟨rfl, rfl⟩; simp only [refE])
          | (go_at_call 27; refine (HL.out _).mono ?_; rintro e w2 ⟨rfl, hb2⟩)
          | (go_at_call 28; refine (HFL.out _).mono ?_; rintro e w3 ⟨he, hb3⟩; replace he : e = .returned (.agg #[.string a, .string b, .int .i64 n, .string r, .bool false, .slice none 0 0, .string ⟨#[]⟩]) := he; subst he))
        have C2 := Blk.new w2 #[.string s, .int .i64 (K0 : Int)] 31
        have M3 := Blk.new w3 #[.string a, .string b, .int .i64 n, .string r, .bool false, .slice none 0 0, .string ⟨#[]⟩] 24
        have hm3 := below_a1 w3 (.cells #[.string a, .string b, .int .i64 n, .string r, .bool false, .slice none 0 0, .string ⟨#[]⟩] 24)
        have hc2 := below_a1 w2 (.cells #[.string s, .int .i64 (K0 : Int)] 31)
        have A3 := (((A1.out.later hb2).later hc2).later hb3).later hm3
        have C3 := (C2.later hb3).later hm3
        have hB3 := below_then (below_then (below_then (below_then HB.out hb2) hc2) hb3) hm3
        have hlt2 := (A1.out.later hb2).lt
        have hlt3 := (C2.later hb3).lt
        have hlt4 := M3.lt
        go_step3
        go_wp2
        generalize hW : w3.alloc (.cells #[.string a, .string b, .int .i64 n, .string r, .bool false, .slice none 0 0, .string ⟨#[]⟩] 24) = W3 at *
        clear hW hm3 hc2 hb2 hb3 C2
        generalize w2.heap.size = G1 at *
        generalize w3.heap.size = G2 at *
        have HA3 := hideB2 A3
        have HC3 := hideB2 C3
        have HM3 := hideB2 M3
        have HB3 := hideB2 hB3
        clear A3 C3 M3 hB3
        generalize hGB : W3.heap.size = GB at *
        have HGB := hideB2 hGB
        clear hGB
        go_loopw [6] (fun _ wr => ∃ (k : Nat) (acc : List Fd) (v : Value), k ≤ s.size ∧ acc.length ≤ 20 ∧ Hid (lnR s (21 - acc.length) k acc = Y) ∧ Blk wr w.heap.size #[.string ⟨#[]⟩, .string ⟨#[]⟩, .int .i64 0, .string ⟨#[]⟩, .bool false, .slice none 0 0, .string ⟨#[]⟩] 24 ∧ Blk wr G1 #[.string s, .int .i64 (k : Int)] 31 ∧ Blk wr G2 #[.string a, .string b, .int .i64 n, .string r, .bool false, v, .string ⟨#[]⟩] 24 ∧ OwF GB wr v acc ∧ Below w.heap.size w wr) (fun _ wr => 21 - fldLen G2 wr)
        case atStart => exact ⟨K0, [], .slice none 0 0, HE.out, Nat.zero_le _, HY.out, HA3.out, HC3.out, HM3.out, OwF.start (by rw [HGB.out]; exact Nat.le_refl _), HB3.out⟩
        case round =>
          obtain ⟨k, acc, v, hk, hacc, hy, ha, hc, hm, hown, hbw⟩ := hrel
          clear HA3 HC3 HM3 HB3
          obtain ⟨va, vc, rfl⟩ := hown.form
          obtain ⟨c0, c1⟩ := hc.c2
          have HA := hideB2 ha
          have HCc := hideB2 hc
          have HM := hideB2 hm
          have HMR := HM
          have HOw := hideB2 hown
          have HBw := hideB2 hbw
          have HN21 := hideB2 (show 21 - acc.length = (20 - acc.length) + 1 by omega)
          clear ha hc hm hown hbw
          by_cases h0 : hlC s k = 0
          · have HL2 := hideB2 (fun W => headLine_ok s k W HS.out hk h0)
            have hE2 := tlE_ok hk (hlC_zero h0).1
            have hn := lenE_nil2 hk
            by_cases he : tlE s k = k
            · obtain rfl : Y = .ok (acc, k + 2) := by rw [← hy.out, HN21.out]; exact lnR_end h0 he
              obtain rfl : X = .ok ((a, b, n, r), acc, k + 2) := HXO.out _ _ rfl
              rw [decide_eq_true he] at hn
              rw [he] at HL2
              clear hy HY HXB HXO h0 he hE2
              generalize lineAt s k = L2 at *
              go_wp2_with fail
              refine (HL2.out _).mono ?_
              rintro e w4 ⟨rfl, hb4⟩
              have C4 := HCc.out.later hb4
              have M4 := HM.out.later hb4
              have A4 := HA.out.later hb4
              obtain ⟨x0, x1⟩ := C4.c2
              have y0 := C4.free 0
              have y1 := C4.free 1
              have M5 := M4.oth2 (g := G1) (by omega) (.string s) (.int .i64 ((k : Int) + 2))
              have A5 := A4.oth2 (g := G1) (by omega) (.string s) (.int .i64 ((k : Int) + 2))
              have C5 := C4.set2 (.string s) (.int .i64 ((k : Int) + 2))
              have O5 := ((HOw.out.later hb4).set (g := G1) (by omega) 0 (.string s)).set (g := G1) (by omega) 1 (.int .i64 ((k : Int) + 2))
              have hbw5 := below_set2 (g := G1) (below_then HBw.out hb4) (by omega) (.string s) (.int .i64 ((k : Int) + 2))
              go_wp2
              generalize hW5 : (w4.setCell ⟨G1, 0, none⟩ (.string s)).setCell ⟨G1, 1, none⟩ (.int .i64 ((k : Int) + 2)) = W5 at *
              clear hW5 x0 x1 y0 y1 C4 M4 A4 hb4 c0 c1
              obtain ⟨x0, x1⟩ := C5.c2
              obtain ⟨m0, m1, m2, m3, m4, m5, m6⟩ := M5.c7
              obtain ⟨a0, a1, a2, a3, a4, a5, a6⟩ := A5.c7
              obtain ⟨f0, f1, f2, f3, f4, f5, f6⟩ := A5.f7
              have HA5 := hideB2 A5
              have HO5 := hideB2 O5
              have HBW5 := hideB2 hbw5
              clear A5 C5 M5 O5 hbw5
              clear HB A1 d1 HFL HL HE HGB HA HCc HM HOw HBw HN21 HL2 hn x0
              have hG0 : w.heap.size < GB := by omega
              go_big_region
              go_wp2
              rw [Exit.noGoto_ret]
              have hA7 := (HA5.out.set7 (.string a) (.string b) (.int .i64 n) (.string r) (.bool false) (.slice va acc.length vc) (.string ⟨#[]⟩)).drew
              have hO7 := ((HO5.out.set7 hG0 (.string a) (.string b) (.int .i64 n) (.string r) (.bool false) (.slice va acc.length vc) (.string ⟨#[]⟩)).drew).buf (w0 := w) (Nat.le_of_lt hG0) (below_set7 HBW5.out (Nat.le_refl _) (.string a) (.string b) (.int .i64 n) (.string r) (.bool false) (.slice va acc.length vc) (.string ⟨#[]⟩)).drew
              generalize World.drew _ = W7 at *
              refine bodyPost_ret (results_cellT rfl _ _ _ rfl hA7 Tryd.underlying24 Tryd.infoMsg) rfl (show hdPost w (.ok ((a, b, n, r), acc, k + 2)) _ _ from ⟨.slice va acc.length vc, ?_, hO7⟩)
              rw [show ((k + 2 : Nat) : Int) = (k : Int) + 2 by omega]
              rfl
            · have hcast2 : (tlE s k : Int) + 2 = ((tlE s k + 2 : Nat) : Int) := by omega
              rw [hcast2] at HL2
              rw [decide_eq_false he] at hn
              have HFN := hideB2 (fun h2 => lnR_full (n := 20 - acc.length) (acc := acc) h0 he h2)
              have HFB := hideB2 (fun h2 h3 => lnR_no (n := 20 - acc.length) (acc := acc) h0 he h2 h3)
              have HFO := hideB2 (fun h2 h3 => lnR_next (n := 20 - acc.length) (acc := acc) h0 he h2 h3)
              have hz2 := lineAt_size (s := s) (k := k) hk
              have HZ2 : Hid ((lineAt s k).size ≤ maxLen) := by
                have := HS.out
                show (lineAt s k).size ≤ maxLen
                omega
              clear hcast2 h0 he hz2
              generalize tlE s k + 2 = K2 at *
              generalize lineAt s k = L2 at *
              by_cases hful : acc.length = 20
              · obtain rfl : Y = .error 431 := by rw [← hy.out, HN21.out]; exact HFN.out hful
                obtain rfl : X = .error 431 := HXB.out _ rfl
                clear hy HY HXB HXO HFN HFB HFO
                have hfull : ((acc.length : Int) == 20) = true := by rw [hful]; rfl
                go_wp2_with fail
                refine (HL2.out _).mono ?_
                rintro e w4 ⟨rfl, hb4⟩
                have C4 := HCc.out.later hb4
                have M4 := HM.out.later hb4
                obtain ⟨x0, x1⟩ := C4.c2
                have y0 := C4.free 0
                have y1 := C4.free 1
                obtain ⟨m0, m1, m2, m3, m4, m5, m6⟩ := (M4.oth2 (g := G1) (by omega) (.string s) (.int .i64 (K2 : Int))).c7
                have HBW5 := hideB2 (below_set2 (g := G1) (below_then HBw.out hb4) (by omega) (.string s) (.int .i64 (K2 : Int)))
                clear C4 M4 hb4 c0 c1
                go_wp2
                exact ⟨rfl, show hdPost w (.error 431) _ _ from ⟨rfl, HBW5.out⟩⟩
              · have hfull : ((acc.length : Int) == 20) = false := by simp; omega
                cases hro : readO L2
                · obtain rfl : Y = .error 400 := by rw [← hy.out, HN21.out]; exact HFB.out hful hro
                  obtain rfl : X = .error 400 := HXB.out _ rfl
                  have HTF := hideB2 (fun W => takenField_bad L2 W HZ2.out hro)
                  clear hy HY HXB HXO HFN HFB HFO hro
                  go_wp2_with fail
                  refine (HL2.out _).mono ?_
                  rintro e w4 ⟨rfl, hb4⟩
                  have C4 := HCc.out.later hb4
                  have M4 := HM.out.later hb4
                  obtain ⟨x0, x1⟩ := C4.c2
                  have y0 := C4.free 0
                  have y1 := C4.free 1
                  have M5 := M4.oth2 (g := G1) (by omega) (.string s) (.int .i64 (K2 : Int))
                  obtain ⟨m0, m1, m2, m3, m4, m5, m6⟩ := M5.c7
                  have hbw5 := below_set2 (g := G1) (below_then HBw.out hb4) (by omega) (.string s) (.int .i64 (K2 : Int))
                  go_wp2
                  generalize hW5 : (w4.setCell ⟨G1, 0, none⟩ (.string s)).setCell ⟨G1, 1, none⟩ (.int .i64 (K2 : Int)) = W5 at *
                  have HBW5 := hideB2 hbw5
                  clear hW5 x0 x1 y0 y1 C4 M4 M5 hb4 c0 c1 hbw5
                  clear HB A1 d1 HFL HL HE HGB HA HCc HM HOw HBw HN21 HL2 hn hfull
                  go_region_dies
                  all_goals
                    go_at_call 29
                    refine (HTF.out _).mono ?_
                    rintro e w6 ⟨rfl, hb6⟩
                    exact ⟨rfl, show hdPost w (.error 400) _ _ from ⟨rfl, below_then (below_then HBW5.out (Below.refl _ W5).drew) hb6⟩⟩
                · have HY3 : Hid (lnR s (20 - acc.length) K2 (acc ++ [readF L2]) = Y) := by
                    show lnR s (20 - acc.length) K2 (acc ++ [readF L2]) = Y
                    rw [← hy.out, HN21.out]; exact (HFO.out hful hro).symm
                  have HTF := hideB2 (fun W => takenField_ok L2 W HZ2.out hro)
                  clear hy HFN HFB HFO hro
                  generalize readF L2 = f at *
                  obtain ⟨d, t⟩ := f
                  simp only at HTF
                  go_wp2_with fail
                  refine (HL2.out _).mono ?_
                  rintro e w4 ⟨rfl, hb4⟩
                  have C4 := HCc.out.later hb4
                  have M4 := HM.out.later hb4
                  have A4 := HA.out.later hb4
                  obtain ⟨x0, x1⟩ := C4.c2
                  have y0 := C4.free 0
                  have y1 := C4.free 1
                  have M5 := M4.oth2 (g := G1) (by omega) (.string s) (.int .i64 (K2 : Int))
                  have A5 := A4.oth2 (g := G1) (by omega) (.string s) (.int .i64 (K2 : Int))
                  have C5 := C4.set2 (.string s) (.int .i64 (K2 : Int))
                  have O5 := ((HOw.out.later hb4).set (g := G1) (by omega) 0 (.string s)).set (g := G1) (by omega) 1 (.int .i64 (K2 : Int))
                  have hbw5 := below_set2 (g := G1) (below_then HBw.out hb4) (by omega) (.string s) (.int .i64 (K2 : Int))
                  obtain ⟨m0, m1, m2, m3, m4, m5, m6⟩ := M5.c7
                  go_wp2
                  generalize hW5 : (w4.setCell ⟨G1, 0, none⟩ (.string s)).setCell ⟨G1, 1, none⟩ (.int .i64 (K2 : Int)) = W5 at *
                  have HM5 := hideB2 M5
                  have HA5 := hideB2 A5
                  have HC5 := hideB2 C5
                  have HO5 := hideB2 O5
                  have HBW5 := hideB2 hbw5
                  have hG2 : G2 < GB := by omega
                  clear hW5 x0 x1 y0 y1 C4 M4 A4 M5 A5 C5 O5 hb4 c0 c1 hbw5
                  clear HB A1 d1 HFL HL HE HGB HA HCc HM HOw HBw HN21 HL2 hn hfull
                  go_region_law (first
                    | (refine step_fapp2 rfl (.tmp 37) (.tmp 40) rfl GB (.slice va acc.length vc) acc rfl (HO6.out.alloc _) _ d t rfl (Blk.new _ _ _) hacc ?_; intro v7 W7 hbuf7 hbl7; obtain ⟨va7, vc7, rfl⟩ := hbuf7.form; have hm7 := hbl7.block G2 hG2; have hcell7 : W7.cell? ⟨G2, 5, none⟩ = some (.slice va acc.length vc) := ((show Blk W7 G2 _ _ from hm7.trans (HM6.out.alloc _)).c7).2.2.2.2.2.1; have hfree7 : W7.frozen? ⟨G2, 5, none⟩ = false := (show Blk W7 G2 _ _ from hm7.trans (HM6.out.alloc _)).free 5)
                    | (go_simp; go_at_call 29; refine (HTF.out _).mono ?_; rintro e w6 ⟨rfl, hb6⟩; have HO6 := hideB2 (HO5.out.drew.later hb6); have HM6 := hideB2 (HM5.out.drew.later hb6); have hu5 : w6.cell? ⟨G2, 5, none⟩ = some (.slice va acc.length vc) := HM6.out.c7.2.2.2.2.2.1; have hlt6 : G2 < w6.heap.size := HM6.out.lt; simp only []))
                  all_goals
                    go_wp2_with fail
                    have hm9 : Blk (W7.setCell ⟨G2, 5, none⟩ (.slice va7 (acc.length + 1) vc7)) G2 #[.string a, .string b, .int .i64 n, .string r, .bool false, .slice va7 (acc.length + 1) vc7, .string ⟨#[]⟩] 24 := (show Blk W7 G2 #[.string a, .string b, .int .i64 n, .string r, .bool false, .slice va acc.length vc, .string ⟨#[]⟩] 24 from hm7.trans (HM6.out.alloc _)).set 5 _
                    have ha6 := (HA5.out.drew.later hb6).alloc (.cells #[.string d, .string t] 37)
                    have hc6 := (HC5.out.drew.later hb6).alloc (.cells #[.string d, .string t] 37)
                    have ha7 : Blk W7 w.heap.size #[.string ⟨#[]⟩, .string ⟨#[]⟩, .int .i64 0, .string ⟨#[]⟩, .bool false, .slice none 0 0, .string ⟨#[]⟩] 24 := (hbl7.block w.heap.size (by omega)).trans ha6
                    have hc7 : Blk W7 G1 #[.string s, .int .i64 (K2 : Int)] 31 := (hbl7.block G1 (by omega)).trans hc6
                    have hw6 := below_then (below_then HBW5.out (Below.refl _ W5).drew) hb6
                    have hw7 : Below w.heap.size w W7 := (hw6.alloc hw6.size (.cells #[.string d, .string t] 37)).trans (hbl7.mono (by omega))
                    rw [List.length_append, List.length_singleton] at hbuf7
                    refine ⟨⟨K2, acc ++ [(d, t)], .slice va7 (acc.length + 1) vc7, hE2, by rw [List.length_append, List.length_singleton]; omega, ?_, ha7.other (by omega) 5 _, hc7.other (by omega) 5 _, hm9, hbuf7.set hG2 5 _, hw7.setCell (p := ⟨G2, 5, none⟩) (show w.heap.size ≤ G2 by omega) _⟩, ?_⟩
                    · rw [List.length_append, List.length_singleton, show 21 - (acc.length + 1) = 20 - acc.length by omega]; exact HY3
                    · have e9 : fldLen G2 (W7.setCell ⟨G2, 5, none⟩ (.slice va7 (acc.length + 1) vc7)) = acc.length + 1 := by unfold fldLen; rw [hm9.c7.2.2.2.2.2.1]
                      have e5 : fldLen G2 wr = acc.length := by unfold fldLen; rw [HMR.out.c7.2.2.2.2.2.1]
                      rw [e9, e5]; omega
          · have HL2 := hideB2 (fun W => headLine_bad s k W HS.out hk h0)
            obtain rfl : Y = .error (hlC s k) := by rw [← hy.out, HN21.out]; exact lnR_bad h0
            obtain rfl : X = .error (hlC s k) := HXB.out _ rfl
            clear hy HY HXB HXO h0
            go_wp2_with (go_at_call 27; refine (HL2.out _).mono ?_; rintro e w4 ⟨rfl, hb4⟩)
            exact ⟨rfl, show hdPost w (.error (hlC s k)) _ _ from ⟨rfl, below_then HBw.out hb4⟩⟩
    · obtain rfl : X = .error (hlC s 0) := by rw [← hX]; unfold hdX; rw [if_neg (by omega), if_pos h2]
      have HL := hideB2 (fun W => headLine_bad s 0 W hsm (Nat.zero_le _) h2)
      rw [show ((0 : Nat) : Int) = 0 from rfl] at HL
      clear hX h2 hs hsm
      generalize hlC s 0 = c at *
      go_enter Tryd.func15, Tryd.ntmps15
      go_wp2
      go_step3
      go_wp2_with (first
        | (go_at_call 26; refine (refuseIf_any _ _ _).mono ?_; rintro e w9 ⟨rfl, rfl⟩; simp only [refE])
        | (go_at_call 27; refine (HL.out _).mono ?_; rintro e w2 ⟨rfl, hb2⟩))
      exact ⟨rfl, show hdPost w (.error c) _ _ from ⟨rfl, below_then HB.out hb2⟩⟩
end Go.Proofs.YtodandipfjamnaaDoor
namespace Go.Proofs.YtodandipfjamnaaDoor
set_option linter.unusedVariables false
set_option linter.unusedSimpArgs false
open Go.RowKit
/-- The panic, when it has been recovered. -/
def goneR (c : Int) : List PanicEntry := [{ v := .iface 52 (.int .i64 c), recovered := true }]
theorem catch_panicking (g : Nat) (x c : Int) (w : World) (hc : w.cell? ⟨g, 0, none⟩ = some (.int .i64 x)) (hz : w.frozen? ⟨g, 0, none⟩ = false) :
    CallsD Tryd.prog 25 #[.pointer (some ⟨g, 0, none⟩)] (.panicking (gone c)) w fun e u' w' =>
      e = .returned (.tuple #[]) ∧ u' = .panicking (goneR c) ∧ w' = w.setCell ⟨g, 0, none⟩ (.int .i64 c) := by
  unfold gone goneR
  refine callsD_of_wpS Tryd.func25 rfl fun c₀ cs hu => ?_
  apply wpS_seq
  apply wpS_region
  simp [wpOpsS, go_sem, recoverD, hu, Tryd.ntmps25, Exit.thenS]
  refine wpS_of_wp ?_
  rw [show (#[Value.pointer (some { block := g, off := 0 })] ++ ((Array.replicate 6 undef).setIfInBounds 1 (Value.iface 52 (.int .i64 c))).setIfInBounds 0 (Value.iface 52 (.int .i64 c))) = #[Value.pointer (some { block := g, off := 0 }), Value.iface 52 (.int .i64 c), Value.iface 52 (.int .i64 c), undef, undef, undef, undef] from rfl]
  have hta : ∀ (c : Int) (w : World), (Instr.typeAssert (.iface 52 (.int .i64 c)) 20 52 false).run Tryd.prog w = .ok (.int .i64 c) w := fun c w => by kernel_rfl
  go_wp2
  simp [bodyPostS, results, Tryd.results25, go_sem]
theorem catch_idle (g : Nat) (w : World) :
    CallsD Tryd.prog 25 #[.pointer (some ⟨g, 0, none⟩)] .returning w fun e u' w' => e = .returned (.tuple #[]) ∧ u' = .returning ∧ w' = w := by
  refine callsD_of_wpS Tryd.func25 rfl fun c₀ cs hu => ?_
  apply wpS_seq
  apply wpS_region
  simp [wpOpsS, go_sem, recoverD, hu, Tryd.ntmps25, Exit.thenS]
  refine wpS_of_wp ?_
  rw [show (#[Value.pointer (some { block := g, off := 0 })] ++ ((Array.replicate 6 undef).setIfInBounds 1 Value.nilIface).setIfInBounds 0 Value.nilIface) = #[Value.pointer (some { block := g, off := 0 }), Value.nilIface, Value.nilIface, undef, undef, undef, undef] from rfl]
  go_wp2
  cases c₀
  simp_all [bodyPostS, results, Tryd.results25]
end Go.Proofs.YtodandipfjamnaaDoor
namespace Go.Proofs.YtodandipfjamnaaDoor
set_option linter.unusedVariables false
set_option linter.unusedSimpArgs false
open Go.RowKit
theorem Blk.c1 {w : World} {g : Nat} {x : Value} {t : TypeId} (h : Blk w g #[x] t) : w.cell? ⟨g, 0, none⟩ = some x := h.cell 0
theorem Blk.set1 {w : World} {g : Nat} {a : Value} {t : TypeId} (h : Blk w g #[a] t) (x : Value) : Blk (w.setCell ⟨g, 0, none⟩ x) g #[x] t := h.set 0 x
/-- What comes of a reader behind its closure. -/
def cbPost {α : Type} (X : Except Int α) (e : Ending) : Prop :=
  match X with
  | .ok _ => e = .returned (.tuple #[])
  | .error c => e = .panicked (gone c)
/-- Nothing that was there has turned but the message at gm and the box gs. -/
def KB7 (gm gs : Nat) (w w' : World) : Prop := ∃ w2, Below w.heap.size w w2 ∧ (w' = w2 ∨ ∃ x0 x1 x2 x3 x4 x5 x6 y, w' = (((((((w2.setCell ⟨gm, 0, none⟩ x0).setCell ⟨gm, 1, none⟩ x1).setCell ⟨gm, 2, none⟩ x2).setCell ⟨gm, 3, none⟩ x3).setCell ⟨gm, 4, none⟩ x4).setCell ⟨gm, 5, none⟩ x5).setCell ⟨gm, 6, none⟩ x6).setCell ⟨gs, 0, none⟩ y)
theorem KB7.blk {gm gs : Nat} {w w' : World} (h : KB7 gm gs w w') {b : Nat} {c : Array Value} {t : TypeId} (hb : Blk w b c t) (hne : gm ≠ b) (hne2 : gs ≠ b) : Blk w' b c t := by
  obtain ⟨w2, h1, rfl | ⟨x0, x1, x2, x3, x4, x5, x6, y, rfl⟩⟩ := h
  · exact hb.later h1
  · exact ((hb.later h1).oth7 hne x0 x1 x2 x3 x4 x5 x6).other hne2 0 y
theorem KB7.below {gm gs : Nat} {w w' : World} (h : KB7 gm gs w w') {B : Nat} (h1 : B ≤ gm) (h1' : B ≤ gs) (h2 : B ≤ w.heap.size) : Below B w w' := by
  obtain ⟨w2, h3, rfl | ⟨x0, x1, x2, x3, x4, x5, x6, y, rfl⟩⟩ := h
  · exact h3.mono h2
  · exact (below_set7 (h3.mono h2) h1 x0 x1 x2 x3 x4 x5 x6).setCell (p := ⟨gs, 0, none⟩) h1' y
end Go.Proofs.YtodandipfjamnaaDoor
