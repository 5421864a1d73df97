/-
  The walks over chapter 1: impl.Elements, a machine of three labels.
-/
import Derived.Test.YtaelopjalfapgabWE
namespace Go.Proofs.Ytaelopjalfapgab
set_option linter.unusedVariables false
set_option linter.unusedSimpArgs false
open Go.RowKit

theorem u8eq {b c : UInt8} (h : (b.toNat : Int) = (c.toNat : Int)) : b = c := UInt8.toNat_inj.1 (by omega)
theorem u8ne {b c : UInt8} (h : (b.toNat : Int) ≠ (c.toNat : Int)) : b ≠ c := fun e => h (by rw [e])
theorem wp_labels2 {P : Program} {a : Act} {w : World} {Q : Exit → Act → World → Prop} {c : Code} (J : Nat → Act → World → Prop) (μ : Nat → Act → World → Nat)
    (hf : ∀ l a w, J l a w → findLabel c l = some ((findLabel c l).getD .skip)) (first : c.wp P (jumpsTo J Q) a w)
    (pass : ∀ l a w, J l a w → ((findLabel c l).getD .skip).wp P (jumpsTo (fun l' a' w' => J l' a' w' ∧ μ l' a' w' < μ l a w) Q) a w) : (Code.scope c).wp P Q a w :=
  wp_labels (fun l => (findLabel c l).getD .skip) J μ hf first pass
/-- The code behind a label, less the empty step in front. -/
def strip : Code → Code
  | .seq .skip r => r
  | c => c
theorem strip_wp {P : Program} {c : Code} {Q : Exit → Act → World → Prop} {a : Act} {w : World} (h : (strip c).wp P Q a w) : c.wp P Q a w := by
  unfold strip at h
  split at h
  · exact wp_seq (wp_skip h)
  · exact h
theorem wp_labels3 {P : Program} {a : Act} {w : World} {Q : Exit → Act → World → Prop} {c : Code} (J : Nat → Act → World → Prop) (μ : Nat → Act → World → Nat)
    (hf : ∀ l a w, J l a w → findLabel c l = some ((findLabel c l).getD .skip))
    (pass : ∀ l a w, J l a w → (strip ((findLabel c l).getD .skip)).wp P (jumpsTo (fun l' a' w' => J l' a' w' ∧ μ l' a' w' < μ l a w) Q) a w)
    (first : (∀ l a w, J l a w → (strip ((findLabel c l).getD .skip)).wp P (jumpsTo J Q) a w) → c.wp P (jumpsTo J Q) a w) : (Code.scope c).wp P Q a w := by
  refine wp_labels2 J μ hf (first fun l a w h => Code.wp_mono ?_ (pass l a w h)) fun l a w h => strip_wp (pass l a w h)
  intro e a' w' hq
  cases e with
  | goto l' => exact hq.1
  | normal => exact hq
  | exit _ => exact hq
  | ret => exact hq
  | panic _ => exact hq
  | outgrown => exact hq
/-- The frame at each label. -/
def ElF (s : ByteArray) (v : Value) (x y : Int) (a : Act) : Prop := ∃ u6 u7 u8 u9 u10 u11 u12 u13 u14 u15 u16 u17 u18 u19 u20 u21 u22 u23 u24 u25 u26 u27 u28 u29 u30 u31 u32 u33 u34 u35 u36 u37 u38 u39 u40 u41 u42 u43 u44 u45 u46 u47 u48 u49 u50 u51 u52 u53 u54 u55 u56 u57 u58 u59 u60 : Value, a = ⟨#[.string s, undef, .slice none 0 0, v, .int .i64 x, .int .i64 y, u6, u7, u8, u9, u10, u11, u12, u13, u14, u15, u16, u17, u18, u19, u20, u21, u22, u23, u24, u25, u26, u27, u28, u29, u30, u31, u32, u33, u34, u35, u36, u37, u38, u39, u40, u41, u42, u43, u44, u45, u46, u47, u48, u49, u50, u51, u52, u53, u54, u55, u56, u57, u58, u59, u60], []⟩
theorem elF_eq {s : ByteArray} {v : Value} {x y x' y' : Int} {u6 u7 u8 u9 u10 u11 u12 u13 u14 u15 u16 u17 u18 u19 u20 u21 u22 u23 u24 u25 u26 u27 u28 u29 u30 u31 u32 u33 u34 u35 u36 u37 u38 u39 u40 u41 u42 u43 u44 u45 u46 u47 u48 u49 u50 u51 u52 u53 u54 u55 u56 u57 u58 u59 u60 : Value} (h1 : Value.int .i64 x' = .int .i64 x) (h2 : Value.int .i64 y' = .int .i64 y) :
    (⟨#[.string s, undef, .slice none 0 0, v, .int .i64 x', .int .i64 y', u6, u7, u8, u9, u10, u11, u12, u13, u14, u15, u16, u17, u18, u19, u20, u21, u22, u23, u24, u25, u26, u27, u28, u29, u30, u31, u32, u33, u34, u35, u36, u37, u38, u39, u40, u41, u42, u43, u44, u45, u46, u47, u48, u49, u50, u51, u52, u53, u54, u55, u56, u57, u58, u59, u60], []⟩ : Act) = ⟨#[.string s, undef, .slice none 0 0, v, .int .i64 x, .int .i64 y, u6, u7, u8, u9, u10, u11, u12, u13, u14, u15, u16, u17, u18, u19, u20, u21, u22, u23, u24, u25, u26, u27, u28, u29, u30, u31, u32, u33, u34, u35, u36, u37, u38, u39, u40, u41, u42, u43, u44, u45, u46, u47, u48, u49, u50, u51, u52, u53, u54, u55, u56, u57, u58, u59, u60], []⟩ := by rw [h1, h2]
def ElJ (s : ByteArray) (w0 : World) (q : Nat) (a : Act) (w : World) : Prop := q ≤ 2 ∧ ∃ (v : Value) (fr k : Nat) (P : List (List UInt8)), ElF s v fr k a ∧ ERel s.data.toList q fr k P ∧ BufS w0 w v (cleanP P) ∧ P.length ≤ k
theorem elJ_mk {s : ByteArray} {w0 w : World} {a : Act} (q : Nat) (v : Value) (fr k : Nat) (P : List (List UInt8)) (h1 : ERel s.data.toList q fr k P) (h2 : BufS w0 w v (cleanP P)) (h3 : P.length ≤ k) (h4 : ElF s v fr k a) (hq : q ≤ 2 := by omega) : ElJ s w0 q a w := ⟨hq, v, fr, k, P, h4, h1, h2, h3⟩
def elMu (s : ByteArray) (l : Nat) (a : Act) (_ : World) : Nat := 2 * (s.size - (intOf (a.tmps.getD 5 undef)).toNat) + if l = 2 then 1 else 0
set_option maxRecDepth 1000000 in
set_option maxHeartbeats 4000000 in
theorem Elements_small (s : ByteArray) (w : World) (hs : s.size ≤ 4000) :
    Calls Try.prog 32 #[.string s] w fun e w' => ∃ v, e = .returned v ∧ BufS w w' v (elsB s) := by
  have hsm : s.size ≤ maxLen := by unfold maxLen; omega
  have hnb : ¬ (4000 : Int) < (s.size : Int) := by omega
  go_enter Try.func32, Try.ntmps32
  go_wp2
  refine wp_labels3 (ElJ s w) (elMu s) ?_ ?_ ?_
  · intro l a w hJ
    obtain ⟨hl, _⟩ := hJ
    match l, hl with
    | 0, _ => rfl
    | 1, _ => rfl
    | 2, _ => rfl
  · intro l a wr hJ
    obtain ⟨hl, v, fr, k, P, ⟨u6, u7, u8, u9, u10, u11, u12, u13, u14, u15, u16, u17, u18, u19, u20, u21, u22, u23, u24, u25, u26, u27, u28, u29, u30, u31, u32, u33, u34, u35, u36, u37, u38, u39, u40, u41, u42, u43, u44, u45, u46, u47, u48, u49, u50, u51, u52, u53, u54, u55, u56, u57, u58, u59, u60, rfl⟩, hrel, hbuf, hPk⟩ := hJ
    have hfr := hrel.1
    have hkl := hrel.2.1
    rw [len_data] at hkl
    have hcl := cleanP_len P
    match l, hl with
    | 0, _ =>
      conv => arg 2; whnf
      by_cases hend : k = s.size
      · subst hend
        have hfin : Hid (elsB s = cleanP P ++ keepP (s.extract fr s.size).data.toList) := by
          show _ = _
          rw [els_small hs, extract_list]
          have := hrel
          rw [← len_data] at this
          rw [erel_end this, cleanP_snoc, List.take_of_length_le (by rw [len_data]; exact Nat.le_refl _)]
        have hge : s.size ≤ s.size := Nat.le_refl _
        clear hrel
        go_wp2_with (go_at_call 43; refine (withPiece_any w _ _ _ _ hbuf (by omega) (by simp [ByteArray.size_extract]; unfold maxLen; omega)).mono ?_; rintro e w1 ⟨v', rfl, hbuf1⟩)
        try simp only [jumpsTo]
        go_ret
        exact ⟨_, rfl, by rw [hfin.out]; exact hbuf1⟩
      · have hlt : k < s.size := by omega
        have hkL : k < s.data.toList.length := by rw [len_data]; exact hlt
        have hne : ((k : Int) == (s.size : Int)) = false := by rw [beq_eq_false_iff_ne]; omega
        have hat : s[k] = s.data.toList.getD k 0 := at8_eq s k hlt
        have Hat : Hid (s[k] = s.data.toList.getD k 0) := hat
        have Hrel : Hid (ERel s.data.toList 0 fr k P) := hrel
        clear hat hrel hend
        by_cases h44 : (s[k].toNat : Int) = 44
        · have g44 : ((s[k].toNat : Int) == 44) = true := by simpa using h44
          have hb44 : Hid (s.data.toList.getD k 0 = 44) := by show _ = _; rw [← Hat.out]; exact u8eq h44
          have hrel2 := erel_comma Hrel.out hkL hb44.out
          have HR : Hid (ERel s.data.toList 0 (k + 1) (k + 1) (P ++ [(s.extract fr k).data.toList])) := by
            show ERel _ _ _ _ _
            rw [extract_list]; exact hrel2
          clear h44 hrel2
          go_wp2_with (go_at_call 43; refine (withPiece_any w _ _ _ _ hbuf (by omega) (by simp [ByteArray.size_extract]; unfold maxLen; omega)).mono ?_; rintro e w1 ⟨v', rfl, hbuf1⟩)
          go_step3
          try simp only [jumpsTo]
          refine ⟨elJ_mk 0 v' (k + 1) (k + 1) (P ++ [(s.extract fr k).data.toList]) HR.out (by rw [cleanP_snoc]; exact hbuf1) (by first | omega | (simp; omega)) ⟨_, _, _, _, _, _, _, _, _, _, _, _, _, _, _, _, _, _, _, _, _, _, _, _, _, _, _, _, _, _, _, _, _, _, _, _, _, _, _, _, _, _, _, _, _, _, _, _, _, _, _, _, _, _, _, elF_eq (by go_num) (by go_num)⟩, ?_⟩
          simp [elMu, intOf]; omega
        · have g44 : ((s[k].toNat : Int) == 44) = false := by simpa using h44
          have hn44 : s.data.toList.getD k 0 ≠ 44 := by rw [← Hat.out]; exact u8ne h44
          have hr := erel_out Hrel.out hkL hn44
          by_cases h34 : (s[k].toNat : Int) = 34
          · have g34 : ((s[k].toNat : Int) == 34) = true := by simpa using h34
            rw [if_pos (by rw [← Hat.out]; exact u8eq h34)] at hr
            have HR : Hid (ERel s.data.toList 1 fr (k + 1) P) := hr
            clear h44 h34 hn44 hr
            go_wp2
            go_step3
            try simp only [jumpsTo]
            refine ⟨elJ_mk 1 v fr (k + 1) P HR.out hbuf (by first | omega | (simp; omega)) ⟨_, _, _, _, _, _, _, _, _, _, _, _, _, _, _, _, _, _, _, _, _, _, _, _, _, _, _, _, _, _, _, _, _, _, _, _, _, _, _, _, _, _, _, _, _, _, _, _, _, _, _, _, _, _, _, elF_eq (by go_num) (by go_num)⟩, ?_⟩
            simp [elMu, intOf]; omega
          · have g34 : ((s[k].toNat : Int) == 34) = false := by simpa using h34
            rw [if_neg (by rw [← Hat.out]; exact u8ne h34)] at hr
            have HR : Hid (ERel s.data.toList 0 fr (k + 1) P) := hr
            clear h44 h34 hn44 hr
            go_wp2
            go_step3
            try simp only [jumpsTo]
            refine ⟨elJ_mk 0 v fr (k + 1) P HR.out hbuf (by first | omega | (simp; omega)) ⟨_, _, _, _, _, _, _, _, _, _, _, _, _, _, _, _, _, _, _, _, _, _, _, _, _, _, _, _, _, _, _, _, _, _, _, _, _, _, _, _, _, _, _, _, _, _, _, _, _, _, _, _, _, _, _, elF_eq (by go_num) (by go_num)⟩, ?_⟩
            simp [elMu, intOf]; omega
    | 1, _ =>
      conv => arg 2; whnf
      by_cases hend : k = s.size
      · subst hend
        have hfin : Hid (elsB s = cleanP P ++ keepP (s.extract fr s.size).data.toList) := by
          show _ = _
          rw [els_small hs, extract_list]
          have := hrel
          rw [← len_data] at this
          rw [erel_end this, cleanP_snoc, List.take_of_length_le (by rw [len_data]; exact Nat.le_refl _)]
        clear hrel
        go_wp2_with (go_at_call 43; refine (withPiece_any w _ _ _ _ hbuf (by omega) (by simp [ByteArray.size_extract]; unfold maxLen; omega)).mono ?_; rintro e w1 ⟨v', rfl, hbuf1⟩)
        try simp only [jumpsTo]
        go_ret
        exact ⟨_, rfl, by rw [hfin.out]; exact hbuf1⟩
      · have hlt : k < s.size := by omega
        have hkL : k < s.data.toList.length := by rw [len_data]; exact hlt
        have hne : ((k : Int) == (s.size : Int)) = false := by rw [beq_eq_false_iff_ne]; omega
        have hat : s[k] = s.data.toList.getD k 0 := at8_eq s k hlt
        have Hat : Hid (s[k] = s.data.toList.getD k 0) := hat
        have hr := erel_in hrel hkL
        clear hat hrel hend
        by_cases h34 : (s[k].toNat : Int) = 34
        · have g34 : ((s[k].toNat : Int) == 34) = true := by simpa using h34
          rw [if_pos (by rw [← Hat.out]; exact u8eq h34)] at hr
          have HR : Hid (ERel s.data.toList 0 fr (k + 1) P) := hr
          clear h34 hr
          go_wp2
          go_step3
          try simp only [jumpsTo]
          refine ⟨elJ_mk 0 v fr (k + 1) P HR.out hbuf (by first | omega | (simp; omega)) ⟨_, _, _, _, _, _, _, _, _, _, _, _, _, _, _, _, _, _, _, _, _, _, _, _, _, _, _, _, _, _, _, _, _, _, _, _, _, _, _, _, _, _, _, _, _, _, _, _, _, _, _, _, _, _, _, elF_eq (by go_num) (by go_num)⟩, ?_⟩
          simp [elMu, intOf]; omega
        · have g34 : ((s[k].toNat : Int) == 34) = false := by simpa using h34
          rw [if_neg (by rw [← Hat.out]; exact u8ne h34)] at hr
          by_cases h92 : (s[k].toNat : Int) = 92
          · have g92 : ((s[k].toNat : Int) == 92) = true := by simpa using h92
            rw [if_pos (by rw [← Hat.out]; exact u8eq h92)] at hr
            have HR : Hid (ERel s.data.toList 2 fr (k + 1) P) := hr
            clear h34 h92 hr
            go_wp2
            go_step3
            try simp only [jumpsTo]
            refine ⟨elJ_mk 2 v fr (k + 1) P HR.out hbuf (by first | omega | (simp; omega)) ⟨_, _, _, _, _, _, _, _, _, _, _, _, _, _, _, _, _, _, _, _, _, _, _, _, _, _, _, _, _, _, _, _, _, _, _, _, _, _, _, _, _, _, _, _, _, _, _, _, _, _, _, _, _, _, _, elF_eq (by go_num) (by go_num)⟩, ?_⟩
            simp [elMu, intOf]; omega
          · have g92 : ((s[k].toNat : Int) == 92) = false := by simpa using h92
            rw [if_neg (by rw [← Hat.out]; exact u8ne h92)] at hr
            have HR : Hid (ERel s.data.toList 1 fr (k + 1) P) := hr
            clear h34 h92 hr
            go_wp2
            go_step3
            try simp only [jumpsTo]
            refine ⟨elJ_mk 1 v fr (k + 1) P HR.out hbuf (by first | omega | (simp; omega)) ⟨_, _, _, _, _, _, _, _, _, _, _, _, _, _, _, _, _, _, _, _, _, _, _, _, _, _, _, _, _, _, _, _, _, _, _, _, _, _, _, _, _, _, _, _, _, _, _, _, _, _, _, _, _, _, _, elF_eq (by go_num) (by go_num)⟩, ?_⟩
            simp [elMu, intOf]; omega
    | 2, _ =>
      conv => arg 2; whnf
      by_cases hlt : k < s.size
      · have hkL : k < s.data.toList.length := by rw [len_data]; exact hlt
        have HR : Hid (ERel s.data.toList 1 fr (k + 1) P) := erel_behind hrel hkL
        clear hrel
        go_wp2
        go_step3
        try simp only [jumpsTo]
        refine ⟨elJ_mk 1 v fr (k + 1) P HR.out hbuf (by first | omega | (simp; omega)) ⟨_, _, _, _, _, _, _, _, _, _, _, _, _, _, _, _, _, _, _, _, _, _, _, _, _, _, _, _, _, _, _, _, _, _, _, _, _, _, _, _, _, _, _, _, _, _, _, _, _, _, _, _, _, _, _, elF_eq (by go_num) (by go_num)⟩, ?_⟩
        simp [elMu, intOf]; omega
      · obtain rfl : k = s.size := by omega
        have HR : Hid (ERel s.data.toList 1 fr s.size P) := by
          have := hrel
          rw [← len_data] at this ⊢
          exact erel_behind_end this
        clear hrel
        go_wp2
        go_step3
        try simp only [jumpsTo]
        refine ⟨elJ_mk 1 v fr s.size P HR.out hbuf (by first | omega | (simp; omega)) ⟨_, _, _, _, _, _, _, _, _, _, _, _, _, _, _, _, _, _, _, _, _, _, _, _, _, _, _, _, _, _, _, _, _, _, _, _, _, _, _, _, _, _, _, _, _, _, _, _, _, _, _, _, _, _, _, elF_eq (by go_num) (by go_num)⟩, ?_⟩
        simp [elMu, intOf]
  · intro hgo
    go_wp2
    go_step3
    apply_assumption
    refine hgo 0 _ w ?_
    exact elJ_mk 0 _ 0 0 [] (erel_start _) (BufS.start w) (Nat.zero_le _) ⟨_, _, _, _, _, _, _, _, _, _, _, _, _, _, _, _, _, _, _, _, _, _, _, _, _, _, _, _, _, _, _, _, _, _, _, _, _, _, _, _, _, _, _, _, _, _, _, _, _, _, _, _, _, _, _, rfl⟩
set_option maxHeartbeats 1000000 in
theorem Elements_any (s : ByteArray) (w : World) (hsm : s.size ≤ maxLen) :
    Calls Try.prog 32 #[.string s] w fun e w' => ∃ v, e = .returned v ∧ BufS w w' v (elsB s) := by
  by_cases hs : s.size ≤ 4000
  · exact Elements_small s w hs
  · have hb : Hid (elsB s = []) := els_big (by omega)
    have hnb : (4000 : Int) < (s.size : Int) := by omega
    clear hs
    go_enter Try.func32, Try.ntmps32
    go_wp2
    refine wp_labels3 (fun _ _ _ => False) (fun _ _ _ => 0) (fun _ _ _ h => h.elim) (fun _ _ _ h => h.elim) (fun _ => ?_)
    go_wp2
    simp only [jumpsTo]
    go_ret
    exact ⟨_, rfl, by rw [hb.out]; exact BufS.start w⟩
end Go.Proofs.Ytaelopjalfapgab
