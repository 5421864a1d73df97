/-
  FnFieldLines: a field comes back from its line, with more blanks in it, too. What the table of the seven names holds is laid by the program's own text (the card).
-/
import Derived.Test.YtbdggopdhnlbfaaDoorRows
import Derived.Test.YtbdggopdhnlbfaaDoorTie
import Derived.Test.YtbdggopdhnlbfaaDoorCards
import Derived.Test.YtbdggopdhnlbfaaDoorF21
import Derived.Test.YtbdggopdhnlbfaaDoorF22
import Derived.Test.YtbdggopdhnlbfaaDoorOpenC
import Derived.Test.YtbdggopdhnlbfaaDoorOpenH
namespace Go.Proofs.YtbdggopdhnlbfaaDoor
set_option linter.unusedVariables false
set_option linter.unusedSimpArgs false
open Go.ChangeShapes Go.WideShapes Go.ChangeAt Go.RowKit
open Go.ChangeMaps (open_string shut_string)
theorem fnFieldLines_tabs {W : World} (h : laidMet Tryd.prog Rows.fnFieldLinesRow.laid W) : Hops W := hops_of_laid (.head _) h
set_option maxRecDepth 100000 in
set_option maxHeartbeats 4000000 in
theorem fnFieldLines_walk (a : Option Addr) (len cap : Nat) (zs : List Int) (w : World) (hz : IsRow .u8 w a len cap zs) (hT : Hops w) :
    Calls Tryd.prog 6 #[.slice a len cap] w fun e w' => e = .returned (.bool true) ∧ Below w.heap.size w w' := by
  have hc := code_of hz
  go_enter Tryd.func6, Tryd.ntmps6
  go_wp2_with fail
  refine (DrawFieldText_any a len cap _ hc).mono ?_
  rintro e w1 ⟨⟨d, s, hd, hs, rfl⟩, hb1⟩
  have hd' : d.size ≤ maxLen := by unfold maxLen; omega
  have hs' : s.size ≤ maxLen := by unfold maxLen; omega
  have ba1 := below_a1 w1 (.cells #[.string d, .string s] 49)
  have S1 := Blk.new w1 #[.string d, .string s] 49
  have hbw1 := below_then hb1 ba1
  have HFT := hideB2 (fun W => FieldText_any d s W hd' hs')
  have HFO := hideB2 (fun W => sFieldOk_any d s W hd' hs')
  clear hb1 ba1 hc hz
  cases hq : fieldQ (d, s)
  · rw [show ftextB (d, s) = ⟨#[]⟩ by unfold ftextB; rw [hq]; rfl] at HFT
    rw [hq] at HFO
    clear hq
    go_wp2_with fail
    generalize w1.alloc (.cells #[.string d, .string s] 49) = W1 at *
    refine (HFT.out _).mono ?_
    rintro e w2 ⟨rfl, hb2⟩
    obtain ⟨p0, p1⟩ := (S1.later hb2).c2
    have hbw2 := below_then hbw1 hb2
    go_wp2_with fail
    refine (HFO.out _).mono ?_
    rintro e w3 ⟨rfl, hb3⟩
    have hbw3 := below_then hbw2 hb3
    have hh3 := hT.later hbw3
    clear p0 p1
    go_wp2_with (go_at_call 33; refine (heads_any _ hh3).mono ?_; rintro e w4 ⟨rfl, hb4⟩)
    go_ret
    exact ⟨rfl, below_then hbw3 hb4⟩
  · rw [show ftextB (d, s) = lineF (d, s) by unfold ftextB; rw [hq]; rfl] at HFT
    have hls : (lineF (d, s)).size ≤ maxLen := by
      rw [← lineF_eq2, ByteArray.size_append, ByteArray.size_append]
      have : (ByteArray.mk #[58, 32]).size = 2 := rfl
      unfold maxLen; omega
    have hws : (d ++ ⟨#[58, 9, 32]⟩ ++ s ++ ⟨#[32]⟩).size ≤ maxLen := by
      rw [ByteArray.size_append, ByteArray.size_append, ByteArray.size_append]
      have e1 : (ByteArray.mk #[58, 9, 32]).size = 3 := rfl
      have e2 : (ByteArray.mk #[32]).size = 1 := rfl
      unfold maxLen; omega
    have HR1 := hideB2 (fun W => ReadField_any (lineF (d, s)) W hls)
    have HR2 := hideB2 (fun W => ReadField_any (d ++ ⟨#[58, 9, 32]⟩ ++ s ++ ⟨#[32]⟩) W hws)
    rw [(read_line hq).1, (read_line hq).2] at HR1
    rw [(read_wide hq).1, (read_wide hq).2] at HR2
    rw [hq] at HFO
    clear hq hls hws
    generalize lineF (d, s) = L at *
    go_wp2_with fail
    generalize w1.alloc (.cells #[.string d, .string s] 49) = W1 at *
    generalize w1.heap.size = b1 at *
    refine (HFT.out _).mono ?_
    rintro e w2 ⟨rfl, hb2⟩
    have S2 := S1.later hb2
    obtain ⟨p0, p1⟩ := S2.c2
    have hbw2 := below_then hbw1 hb2
    clear S1 hb2 hbw1
    go_wp2_with fail
    refine (HFO.out _).mono ?_
    rintro e w3 ⟨rfl, hb3⟩
    have S3 := S2.later hb3
    have hbw3 := below_then hbw2 hb3
    clear p0 p1 S2 hb3 hbw2
    go_wp2_with fail
    refine (HR1.out _).mono ?_
    rintro e w4 ⟨rfl, hb4⟩
    have ba4 := below_a1 w4 (.cells #[.string d, .string s] 49)
    have X4 := Blk.new w4 #[.string d, .string s] 49
    have S4 := (S3.later hb4).later ba4
    have hbw4 := below_then (below_then hbw3 hb4) ba4
    obtain ⟨p0, p1⟩ := S4.c2
    have hlt4 := S3.lt
    have hsz4 := hb4.size
    clear S3 hb4 ba4 hbw3
    go_wp2_with fail
    generalize w4.alloc (.cells #[.string d, .string s] 49) = W4 at *
    generalize w4.heap.size = b4 at *
    refine (HR2.out _).mono ?_
    rintro e w5 ⟨rfl, hb5⟩
    have ba5 := below_a1 w5 (.cells #[.string d, .string s] 49)
    have Y5 := Blk.new w5 #[.string d, .string s] 49
    have S5 := (S4.later hb5).later ba5
    have X5 := (X4.later hb5).later ba5
    have hbw5 := below_then (below_then hbw4 hb5) ba5
    have hh5 := hT.later hbw5
    clear p0 p1
    obtain ⟨p0, p1⟩ := S5.c2
    obtain ⟨x0, x1⟩ := X5.c2
    obtain ⟨y0, y1⟩ := Y5.c2
    have HB := hideB2 hbw5
    have hdd : (d.toList == d.toList) = true := by simp
    have hss : (s.toList == s.toList) = true := by simp
    clear S4 S5 X4 X5 Y5 hb5 ba5 hbw4 hbw5 HR1 HR2 HFO HFT
    go_wp2_with (go_at_call 33; refine (heads_any _ hh5).mono ?_; rintro e w6 ⟨rfl, hb6⟩)
    go_ret
    exact ⟨rfl, below_then HB.out hb6⟩

/-- A world that meets the condition: the settled one, the listed tables laid. -/
theorem fnFieldLines_laid_met (os : Os) (args : Array Value) : laidMet Tryd.prog Rows.fnFieldLinesRow.laid (({ (World.holding Tryd.prog os ⟨#[], #[], []⟩) with heap := ((World.holding Tryd.prog os ⟨#[], #[], []⟩).heap.modify 0 (laidRow #[.string ⟨#[99, 111, 110, 110, 101, 99, 116, 105, 111, 110]⟩, .string ⟨#[107, 101, 101, 112, 45, 97, 108, 105, 118, 101]⟩, .string ⟨#[112, 114, 111, 120, 121, 45, 99, 111, 110, 110, 101, 99, 116, 105, 111, 110]⟩, .string ⟨#[116, 101]⟩, .string ⟨#[116, 114, 97, 105, 108, 101, 114]⟩, .string ⟨#[116, 114, 97, 110, 115, 102, 101, 114, 45, 101, 110, 99, 111, 100, 105, 110, 103]⟩, .string ⟨#[117, 112, 103, 114, 97, 100, 101]⟩])) } : World).forCall (fun _ _ => 0) ⟨#[], args, []⟩).memory :=
  laidMet_of_run' 8 (by kernel_rfl) (by kernel_rfl)
set_option maxRecDepth 100000 in
theorem fnFieldLines_lifted (os : Os) (started : os.Started) (H : Type) (enc : TypeId × Value → H) :
    ReturnsInHanded {} Tryd.checked os 6 .any (fun w args => (Rows.fnFieldLinesSpec.pre enc Tryd.prog Tryd.f6 [] false w args ∧ laidMetH Tryd.prog Rows.fnFieldLinesRow.laid w) ∧ sizedMet enc Tryd.prog Tryd.f6 (OpenSpec.ofChange Rows.fnFieldLinesSpec) false w args)
      (Rows.fnFieldLinesSpec.post enc Tryd.prog Tryd.f6 false true false false) := by
  refine returnsInHanded_of_change_and (C := Tryd.checked) (X := fun w _ => laidMetH Tryd.prog Rows.fnFieldLinesRow.laid w) (fun _ _ _ hh h => h.of_heap hh) Tryd.own started (by kernel_rfl) Tryd.func6
    (ChangeSpec.witness_at (enc := enc) (C := Tryd.checked) (os := os) (X := fun w _ => laidMetH Tryd.prog Rows.fnFieldLinesRow.laid w) false ({ (World.holding Tryd.prog os ⟨#[], #[], []⟩) with heap := ((World.holding Tryd.prog os ⟨#[], #[], []⟩).heap.modify 0 (laidRow #[.string ⟨#[99, 111, 110, 110, 101, 99, 116, 105, 111, 110]⟩, .string ⟨#[107, 101, 101, 112, 45, 97, 108, 105, 118, 101]⟩, .string ⟨#[112, 114, 111, 120, 121, 45, 99, 111, 110, 110, 101, 99, 116, 105, 111, 110]⟩, .string ⟨#[116, 101]⟩, .string ⟨#[116, 114, 97, 105, 108, 101, 114]⟩, .string ⟨#[116, 114, 97, 110, 115, 102, 101, 114, 45, 101, 110, 99, 111, 100, 105, 110, 103]⟩, .string ⟨#[117, 112, 103, 114, 97, 100, 101]⟩])) } : World) #[.slice none 0 0] 8 rfl (by kernel_rfl) (by kernel_rfl) (by kernel_rfl) (by kernel_rfl) (by kernel_rfl) (fnFieldLines_laid_met os _)) ?_
  intro W base args ds gs before hval0 hW _ _ hL _
  have hval : ∀ (j : Nat) t v, Tryd.f6.params[j]? = some t → args[j]? = some v → Value.okWide Tryd.prog W .any base t v := hval0
  have hW' := hW
  obtain ⟨p, q, hA0, hV, rfl, hfz, hnd⟩ := hW
  have hA : DataW.TrodAll enc Tryd.prog W 0 (fun _ => true) true Tryd.f6.params.toList args.toList ds p := hA0
  rw [Tryd.params6] at hA hval
  obtain ⟨v0, vs0, d0, ds0, p0, q0, hargs, rfl, rfl, h0, r0⟩ := trodAll_cons hA
  obtain ⟨rfl, rfl, rfl⟩ := trodAll_nil r0
  obtain rfl : args = #[v0] := by cases args; simp_all
  obtain ⟨g1, rfl⟩ := trodVars_one' hV
  obtain ⟨a0, len0, cap0, rfl⟩ := okWide_slice Tryd.underlying22 (hval 0 22 v0 rfl rfl)
  have k0 := h0
  have lt0 : ∀ x ∈ p0, x.block < W.heap.size := by obtain ⟨m, hm⟩ := k0; exact DataW.trod_lt m _ _ _ hm
  obtain ⟨z0, w0⟩ : ∃ zs, IsRow .u8 W a0 len0 cap0 zs := by
    obtain ⟨fuel, hf⟩ := h0
    rcases open_ints Tryd.underlying22 Tryd.underlying5 (by kernel_rfl) hf with ⟨hcs, _⟩ | ⟨x, l, c, zs, hcs, _, hl, hm, hz, _, hcell, hwz⟩
    · simp [Value.cells] at hcs
      obtain ⟨rfl, rfl, rfl⟩ := hcs
      exact ⟨[], .inl ⟨rfl, rfl, rfl, rfl⟩⟩
    · simp [Value.cells] at hcs
      obtain ⟨rfl, rfl, rfl⟩ := hcs
      exact ⟨zs, .inr ⟨_, rfl, hl, hm, by simpa using hz, hcell, hwz⟩⟩
  have tabs := fnFieldLines_tabs (W := W) hL
  clear hA0 hval0
  refine (fnFieldLines_walk a0 len0 cap0 z0 W w0 tabs).mono fun e W' ⟨he, bel⟩ => ?_
  subst he
  exact ⟨_, rfl, _, _, _, [], _, _, hW', trodAll_mk1 (shut_bool Tryd.underlying4 _), (trodAll_cons_mk (Below.trod Tryd.laidOut (by kernel_rfl) (of_decide_eq_true (by kernel_rfl)) k0 bel lt0) trodAll_mk0), (Below.trodVars Tryd.laidOut bel (by kernel_rfl) hV), bel.frame _, fun h => by cases h⟩
theorem fnFieldLines_row : Rows.FnFieldLinesSaid :=
  OpenClaim.holds_of_wide 6 Tryd.f6 rfl rfl rfl rfl rfl rfl rfl ⟨rfl, rfl, rfl, rfl, rfl⟩ rfl rfl rfl rfl rfl (by kernel_rfl) Tryd.func6 (by kernel_rfl)
    (of_decide_eq_true (by kernel_rfl)) (by unfold Func.isWrapper; first | (rw [if_pos (by decide +kernel)]; kernel_rfl) | (rw [if_neg (by decide +kernel)]; exact ⟨rfl, rfl⟩))
    (fun os started H enc _ => fnFieldLines_lifted os started H enc)
/-- THE STATEMENT: the card. -/
theorem fnFieldLines_holds : Rows.FnFieldLinesCardSaid :=
  Claim7.holds_tied_plain_at .later [] [.data] true (true, "b878e3371994f45a00128221fc6dafd8b56fc37097d4628f486188b5e3b15f59") true
    fnFieldLines_row (fun _ h => by cases h) (by kernel_rfl) (fun _ h => by cases h) fnFieldLines_row_tie rfl ⟨rfl, rfl⟩ (by kernel_rfl) rfl
    (fun f fn hf hfn => by
      obtain rfl : f = 6 := Option.some.inj ((show Tryd.prog.funcNamed "loop.example/g00651/laws.FnFieldLines" = some 6 by kernel_rfl).symm.trans hf) |>.symm
      obtain rfl : fn = Tryd.f6 := (Option.some.inj (Tryd.func6.symm.trans hfn)).symm
      exact ⟨by kernel_rfl, fun j t ht => by
        rw [Tryd.params6] at ht
        rcases j with _ | j
        · have h3 : t = 22 := by simpa using ht.symm
          subst h3
          exact (show Tryd.prog.wantsStandIn 22 = false by kernel_rfl)
        · simp at ht⟩)
    (by kernel_rfl)
#print axioms fnFieldLines_holds
end Go.Proofs.YtbdggopdhnlbfaaDoor
