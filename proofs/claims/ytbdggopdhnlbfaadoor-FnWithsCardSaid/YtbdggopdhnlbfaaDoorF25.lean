/-
  FnWiths: what is put in is there alone by its name: on lists; the draw.
-/
import Derived.Test.YtbdggopdhnlbfaaDoorF22
import Derived.Test.YtbdggopdhnlbfaaDoorF24
namespace Go.Proofs.YtbdggopdhnlbfaaDoor
set_option linter.unusedVariables false
set_option linter.unusedSimpArgs false
open Go.RowKit
theorem nameIs_self (f : Fd) : nameIs f.1 f = true := by unfold nameIs; exact eqB_self _
theorem withL_cases (l : List Fd) (f : Fd) : withL l f = [] ∨ (withL l f = (l.filter fun x => !nameIs f.1 x) ++ [f] ∧ fieldsQ l = true ∧ fieldsQ (withL l f) = true ∧ (withL l f).length ≤ 20 ∧ valuesL (withL l f) f.1 = [f.2] ∧ withoutL (withL l f) f.1 = withoutL l f.1) := by
  by_cases h : fieldsQ l = true ∧ fieldQ f = true ∧ (l.filter (fun x => !nameIs f.1 x)).length < 20
  · have e : withL l f = (l.filter fun x => !nameIs f.1 x) ++ [f] := by unfold withL; rw [if_pos h]
    right
    have hlen : (withL l f).length ≤ 20 := by rw [e]; simp; omega
    have hq : fieldsQ (withL l f) = true := by
      refine fieldsQ_iff.2 ⟨hlen, fun x hx => ?_⟩
      rw [e] at hx
      rcases List.mem_append.1 hx with hx | hx
      · exact (fieldsQ_iff.1 h.1).2 x (List.mem_filter.1 hx).1
      · simp at hx; subst hx; exact h.2.1
    refine ⟨e, h.1, hq, hlen, ?_, ?_⟩
    · unfold valuesL valsOf
      rw [if_pos hq, e, List.filter_append, List.filter_filter]
      have h1 : (l.filter fun a => nameIs f.1 a && !nameIs f.1 a) = [] := by
        rw [List.filter_eq_nil_iff]; intro x _; simp
      rw [h1, List.filter_cons_of_pos (nameIs_self f)]; rfl
    · unfold withoutL
      rw [if_pos hq, if_pos h.1, e, List.filter_append, List.filter_filter]
      rw [List.filter_cons_of_neg (by rw [nameIs_self f]; simp)]
      simp
  · left; unfold withL; rw [if_neg h]
theorem withL_short {l : List Fd} {f : Fd} (h : Short l) (hf : f.1.size ≤ 100 ∧ f.2.size ≤ 100) : Short (withL l f) := by
  intro x hx
  unfold withL at hx
  split at hx
  · rcases List.mem_append.1 hx with hx | hx
    · exact h x (List.mem_filter.1 hx).1
    · simp at hx; subst hx; exact hf
  · simp at hx
theorem withoutL_le (l : List Fd) (n : ByteArray) : (withoutL l n).length ≤ l.length := by
  unfold withoutL
  split
  · exact List.length_filter_le _ _
  · simp
theorem SlF.other {w : World} {v : Value} {l : List Fd} {g : Nat} (h : SlF w v l) (hne : ∀ q, v.ownBlock = some q → g ≠ q) (k : Nat) (x : Value) : SlF (w.setCell ⟨g, k, none⟩ x) v l := by
  rcases h with h | ⟨b, cap, e, hr⟩
  · exact .inl h
  · exact .inr ⟨b, cap, e, hr.other (hne b (by rw [e]; rfl)) k x⟩
theorem results_tmpC {fn : Func} {p u : Tmp} {ty : TypeId} (h : fn.results = #[.tmp u, .cell p ty]) (tmps : Array Value) (P : Program) (w : World) {b : Nat} {c : Array Value} {t : TypeId} {fs : Array Field} (hp : tmps.getD p undef = .pointer (some ⟨b, 0, none⟩)) (hB : Blk w b c t)
    (hu : P.underlying ty = some (.struct fs)) (hi : (P.info? ty).map (·.size) = some c.size) : (results fn tmps).run P w = .ok (.tuple #[tmps.getD u undef, .agg c]) w := by
  have hrun := run_loadVar_row (P := P) w b t ty c (0, 0) _ hB hu rfl hi
  have ha : (asAddr (tmps.getD p undef)).run P w = .ok ⟨b, 0, none⟩ w := by rw [hp]; rfl
  have he : (results fn tmps).run P w = ((asAddr (tmps.getD p undef)).run P w).andThen fun a w₁ => ((loadVar ty a).run P w₁).andThen fun x w₂ => .ok (.tuple #[tmps.getD u undef, x]) w₂ := by
    simp only [results, h]
    simp [Sem.run_bind, Result.andThen]
  rw [he, ha]
  show ((loadVar ty ⟨b, 0, none⟩).run P w).andThen _ = _
  rw [hrun]
  rfl
set_option maxRecDepth 100000 in
set_option maxHeartbeats 4000000 in
theorem DrawWith_any (a : Option Addr) (len cap : Nat) (w : World) (hc : Code w a len) :
    Calls Tryd.prog 35 #[.slice a len cap] w fun e w' => (∃ v l, ∃ d s : ByteArray, e = .returned (.tuple #[v, .agg #[.string d, .string s]]) ∧ l.length ≤ 21 ∧ Short l ∧ d.size ≤ 100 ∧ s.size ≤ 100 ∧ SlF w' v l) ∧ Below w.heap.size w w' := by
  have R0 := Blk.new w #[.string ⟨#[]⟩, .string ⟨#[]⟩] 49
  have ba := below_a1 w (.cells #[.string ⟨#[]⟩, .string ⟨#[]⟩] 49)
  have hc1 := hc.later ba
  have hsz : (w.alloc (.cells #[.string ⟨#[]⟩, .string ⟨#[]⟩] 49)).heap.size = w.heap.size + 1 := by simp
  clear hc
  go_enter Tryd.func35, Tryd.ntmps35
  go_wp2_with fail
  generalize w.alloc (.cells #[.string ⟨#[]⟩, .string ⟨#[]⟩] 49) = W at *
  have HSZ := hideB2 hsz
  clear hsz
  refine (l1New_any a len cap _ hc1.row hc1.max).mono ?_
  rintro e w1 ⟨rfl, hb1, hd1⟩
  generalize hp : W.heap.size = p at *
  have HP := hideB2 hp
  clear hp
  go_wp2_with fail
  refine (l5bent_any p _ hd1).mono ?_
  rintro e w2 ⟨v, l, rfl, hl, hsh, hbuf⟩
  have HL := hideB2 hl
  have HSH := hideB2 hsh
  have hs1 := hd1.lt
  have hvb : ∀ q, v.ownBlock = some q → p < q ∧ q < w2.heap.size := fun q hq => by have := hbuf.own.lt q hq; omega
  have hd2 := hbuf.st
  have hk2 := hbuf.kp
  have S2 : SlF w2 v l := by
    have hB : BufF W w2 v l := by
      refine ⟨by rw [HP.out]; exact hb1.trans (hbuf.kp.below (Nat.le_refl _) (Nat.le_of_lt hd1.lt)), hbuf.own.1, ?_⟩
      rcases hbuf.own.2 with h2 | ⟨g, cap, cur, h1, hg, r⟩
      · exact .inl h2
      · exact .inr ⟨g, cap, cur, h1, by have := hb1.size; rw [HP.out]; omega, r⟩
    exact hB.ans.1
  obtain ⟨av, cv, rfl⟩ := hbuf.form
  clear hbuf hsh hl
  go_wp2_with fail
  refine (l5field_any p _ hd2).mono ?_
  rintro e w3 ⟨⟨d, s, hds, hss, rfl⟩, hk3, hd3⟩
  have hs2 := hk2.size
  have hs3 := hk3.size
  have ba3 := below_a1 w3 (.cells #[.string d, .string s] 49)
  have V4 : DF p w.heap.size w3.heap.size w (w3.alloc (.cells #[.string d, .string s] 49)) d s := by
    have hsz := HSZ.out
    have hp := HP.out
    have hbw := ba.trans (hb1.mono (by omega))
    have hk := hk2.trans hk3
    have hbw2 := hbw.trans (hk.below (B := w.heap.size) (by omega) (by omega))
    exact ⟨Blk.new w3 _ _, (blk_kp (R0.later (by rw [hp]; exact hb1)) hk (by omega)).later ba3, hd3.kept ba3, hbw2.trans (ba3.mono hbw2.size), Nat.le_refl _, by omega, by omega, by omega, by omega⟩
  have S4 := (S2.gb hk3 (fun q hq e => by injection e with e; have := (hvb q hq).1; omega)).later ba3
  have hvb4 : ∀ q, (Value.slice av l.length cv).ownBlock = some q → p < q ∧ q < w3.heap.size := fun q hq => by have := hvb q hq; omega
  clear R0 hk2 hk3 hd1 hd2 hd3 hb1 ba hc1 ba3 S2 hvb
  go_wp2_with fail
  generalize w3.alloc (.cells #[.string d, .string s] 49) = W4 at *
  generalize w3.heap.size = g at *
  have hvr : ∀ q, (Value.slice av l.length cv).ownBlock = some q → w.heap.size ≠ q := fun q hq => by have := hvb4 q hq; have := V4.rge; have := V4.pge; have h3 := V4.ne1; omega
  have hvg : ∀ q, (Value.slice av l.length cv).ownBlock = some q → g ≠ q := fun q hq => by have := hvb4 q hq; omega
  have hvp : ∀ q, (Value.slice av l.length cv).ownBlock = some q → (some p : Option Nat) ≠ some q := fun q hq e => by injection e with e; have := hvb4 q hq; omega
  have HVR := hideB2 hvr
  have HVG := hideB2 hvg
  have HVP := hideB2 hvp
  clear hvr hvg hvp hvb4 hs1 hs2 hs3 HSZ HP
  refine (l1Once_any p 8 _ V4.st (by omega)).mono ?_
  rintro e w5 ⟨⟨b, rfl⟩, hk5, hd5⟩
  have V5 := V4.draw hk5 hd5
  have S5 := S4.gb hk5 HVP.out
  clear V4 S4 hk5 hd5
  cases b
  · obtain ⟨q0, q1⟩ := V5.blk.c2
    obtain ⟨r0, r1⟩ := V5.res.c2
    have z0 := V5.res.free 0
    have z1 := V5.res.free 1
    have n3 := V5.ne3
    have HV := hideB2 V5
    have HS := hideB2 S5
    clear V5 S5
    go_wp2
    go_region
    all_goals
      go_wp2
      have HBK : Hid (Blk ((w5.setCell ⟨w.heap.size, 0, none⟩ (.string d)).setCell ⟨w.heap.size, 1, none⟩ (.string s)).drew w.heap.size #[.string d, .string s] 49) := HV.out.res.set2 _ _
      refine bodyPost_ret (results_tmpC rfl _ _ _ rfl HBK.out Tryd.underlying49 Tryd.infoFd) rfl ⟨⟨_, l, _, _, rfl, HL.out, HSH.out, by omega, by omega, ((HS.out.other HVR.out 0 _).other HVR.out 1 _).later (Below.refl _ _).drew⟩, (below_set2 HV.out.bel (Nat.le_refl _) _ _).drew⟩
  · obtain ⟨q0, q1⟩ := V5.blk.c2
    go_wp2_with fail
    refine (l1bend_any p s _ V5.st (by omega)).mono ?_
    rintro e w6 ⟨⟨t, ht, rfl⟩, hk6, hd6⟩
    have V6 := V5.draw hk6 hd6
    have S6 := S5.gb hk6 HVP.out
    clear q0 q1
    obtain ⟨q0, q1⟩ := V6.blk.c2
    have f0 := V6.blk.free 1
    have HV7 := hideB2 (V6.set1 t)
    have HS7 := hideB2 (S6.other HVG.out 1 (.string t))
    clear V5 V6 S5 S6 hk6 hd6
    go_wp2
    have V7 := HV7.out
    have S7 := HS7.out
    generalize World.setCell _ _ _ = W7 at *
    clear q0 q1 f0
    obtain ⟨q0, q1⟩ := V7.blk.c2
    obtain ⟨r0, r1⟩ := V7.res.c2
    have z0 := V7.res.free 0
    have z1 := V7.res.free 1
    have n3 := V7.ne3
    have HV := hideB2 V7
    have HS := hideB2 S7
    clear V7 S7 HV7 HS7
    go_region
    all_goals
      go_wp2
      have HBK : Hid (Blk ((W7.setCell ⟨w.heap.size, 0, none⟩ (.string d)).setCell ⟨w.heap.size, 1, none⟩ (.string t)).drew w.heap.size #[.string d, .string t] 49) := HV.out.res.set2 _ _
      refine bodyPost_ret (results_tmpC rfl _ _ _ rfl HBK.out Tryd.underlying49 Tryd.infoFd) rfl ⟨⟨_, l, _, _, rfl, HL.out, HSH.out, by omega, by omega, ((HS.out.other HVR.out 0 _).other HVR.out 1 _).later (Below.refl _ _).drew⟩, (below_set2 HV.out.bel (Nat.le_refl _) _ _).drew⟩
end Go.Proofs.YtbdggopdhnlbfaaDoor
