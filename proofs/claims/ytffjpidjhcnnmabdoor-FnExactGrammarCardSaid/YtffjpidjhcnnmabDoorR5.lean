/-
  Chapter 8 on lists: how a looser reader takes a record. No Go in sight.
-/
import Derived.Test.YtffjpidjhcnnmabDoorML6
import Derived.Test.YtffjpidjhcnnmabDoorCU
import Derived.Test.YtffjpidjhcnnmabDoorPT
import Derived.Test.YtffjpidjhcnnmabDoorM3
import Derived.Test.YtffjpidjhcnnmabDoorW5
import Derived.Test.YtffjpidjhcnnmabDoorMY
namespace Go.Proofs.YtffjpidjhcnnmabDoor
set_option linter.unusedVariables false
set_option linter.unusedSimpArgs false
open Go.RowKit
/-! When a text is a date of records. -/
def wqY (a : ByteArray) : Nat := nval (a.extract 0 4)
def wqM (a : ByteArray) : Nat := nval (a.extract 5 7)
def wqD (a : ByteArray) : Nat := nval (a.extract 8 10)
def wqH (a : ByteArray) : Nat := nval ((a.extract 11 19).extract 0 2)
def wqI (a : ByteArray) : Nat := nval ((a.extract 11 19).extract 3 5)
def wqS (a : ByteArray) : Nat := nval ((a.extract 11 19).extract 6 8)
def wqO (a : ByteArray) : Bool := vldB (wqY a) (wqM a) (wqD a) (wqH a) (wqI a) (wqS a) && eqB a (warcB (wqY a) (wqM a) (wqD a) (wqH a) (wqI a) (wqS a))
def wqN (a : ByteArray) : Int := if wqO a = true then secs (wqY a) (wqM a) (wqD a) (wqH a) (wqI a) (wqS a) else 0
theorem wq_res (a : ByteArray) : Res (IsF 9999 warcF a) (wqN a) (wqO a) := by
  have hr := warc_reads a
  cases h : wqO a
  · refine .inr ⟨rfl, by unfold wqN; rw [h]; rfl, ?_⟩
    rintro t ⟨y, m, d, hh, i, s, hv, hz, ht, ha⟩
    obtain ⟨e1, e2, e3, e4, e5, e6⟩ := hr _ _ _ _ _ _ hv hz ha
    have f1 := Int.ofNat_inj.1 e1
    have f2 := Int.ofNat_inj.1 e2
    have f3 := Int.ofNat_inj.1 e3
    have f4 := Int.ofNat_inj.1 e4
    have f5 := Int.ofNat_inj.1 e5
    have f6 := Int.ofNat_inj.1 e6
    unfold wqO wqY wqM wqD wqH wqI wqS at h
    rw [f1, f2, f3, f4, f5, f6, vldB_iff.2 hv, Bool.true_and] at h
    unfold warcF at ha
    rw [← ha, eqB_self] at h
    cases h
  · have h' := h
    unfold wqO at h'
    rw [Bool.and_eq_true] at h'
    have hv := vldB_iff.1 h'.1
    have hv' := hv
    unfold vld at hv'
    refine .inl ⟨rfl, _, _, _, _, _, _, hv, by omega, by unfold wqN; rw [if_pos h], eqB_iff.1 h'.2⟩
theorem wq_of {a : ByteArray} {t : Int} (h : IsF 9999 warcF a t) : wqO a = true ∧ wqN a = t := by
  obtain ⟨e1, e2⟩ := Res.unique (warc_reads a).unique (wq_res a) (.inl ⟨rfl, h⟩)
  exact ⟨e2, e1⟩
theorem wq_same {a : ByteArray} {t : Int} {b : Bool} (h : Res (IsF 9999 warcF a) t b) : t = wqN a ∧ b = wqO a := Res.unique (warc_reads a).unique h (wq_res a)
/-! A line. -/
def llnO (t : ByteArray) : Bool := hasS 58 t && tokB (uptS 58 t) && plnB (trimB (bhS 58 t))
def llnV (t : ByteArray) : Fd := (foldB (uptS 58 t), trimB (bhS 58 t))
def lkQ (s : ByteArray) (k : Nat) : Bool := decide (tlC s k = 0) && decide (tlE s k - k ≤ 300)
theorem lkQ_iff {s : ByteArray} {k : Nat} : lkQ s k = true ↔ tlC s k = 0 ∧ tlE s k - k ≤ 300 := by unfold lkQ; simp
/-- The lines up to an empty one, and the place behind it; f: how many lines at most. -/
def lsR (s : ByteArray) : Nat → Nat → Option (List Fd × Nat)
  | 0, _ => none
  | f + 1, k => if lkQ s k = true then (if tlE s k = k then some ([], k + 2) else if llnO (lineAt s k) = true then (lsR s f (tlE s k + 2)).map (fun p => (llnV (lineAt s k) :: p.1, p.2)) else none) else none
theorem lsR_fuel (s : ByteArray) : ∀ (f g k : Nat), k ≤ s.size → s.size + 1 - k ≤ f → s.size + 1 - k ≤ g → lsR s f k = lsR s g k := by
  intro f
  induction f with
  | zero => intro g k hk h0 _; omega
  | succ f ih =>
    intro g k hk h0 h1
    match g, h1 with
    | 0, h1 => omega
    | g + 1, h1 =>
      unfold lsR
      by_cases hq : lkQ s k = true
      · have h2 := tlE_ok hk (lkQ_iff.1 hq).1
        have h3 := tlE_ge s k
        rw [if_pos hq, if_pos hq, ih g (tlE s k + 2) h2 (by omega) (by omega)]
      · rw [if_neg hq, if_neg hq]
def lsF (s : ByteArray) (k : Nat) : Option (List Fd × Nat) := lsR s (s.size + 1) k
theorem lsF_step {s : ByteArray} {k : Nat} (hk : k ≤ s.size) : lsF s k = if lkQ s k = true then (if tlE s k = k then some ([], k + 2) else if llnO (lineAt s k) = true then (lsF s (tlE s k + 2)).map (fun p => (llnV (lineAt s k) :: p.1, p.2)) else none) else none := by
  by_cases hq : lkQ s k = true
  · have h2 := tlE_ok hk (lkQ_iff.1 hq).1
    have h3 := tlE_ge s k
    show lsR s (s.size + 1) k = _
    unfold lsR
    rw [if_pos hq, if_pos hq, lsR_fuel s s.size (s.size + 1) (tlE s k + 2) h2 (by omega) (by omega)]
    rfl
  · show lsR s (s.size + 1) k = _
    unfold lsR
    rw [if_neg hq, if_neg hq]
theorem lsF_bad {s : ByteArray} {k : Nat} (hk : k ≤ s.size) (h : lkQ s k = false) : lsF s k = none := by rw [lsF_step hk, if_neg (by rw [h]; decide)]
theorem lsF_end {s : ByteArray} {k : Nat} (hk : k ≤ s.size) (h : lkQ s k = true) (he : tlE s k = k) : lsF s k = some ([], k + 2) := by rw [lsF_step hk, if_pos h, if_pos he]
theorem lsF_no {s : ByteArray} {k : Nat} (hk : k ≤ s.size) (h : lkQ s k = true) (he : ¬ tlE s k = k) (ho : llnO (lineAt s k) = false) : lsF s k = none := by rw [lsF_step hk, if_pos h, if_neg he, if_neg (by rw [ho]; decide)]
theorem lsF_next {s : ByteArray} {k : Nat} (hk : k ≤ s.size) (h : lkQ s k = true) (he : ¬ tlE s k = k) (ho : llnO (lineAt s k) = true) : lsF s k = (lsF s (tlE s k + 2)).map (fun p => (llnV (lineAt s k) :: p.1, p.2)) := by rw [lsF_step hk, if_pos h, if_neg he, if_pos ho]
theorem llnV_le {s : ByteArray} {k : Nat} (hk : k ≤ s.size) (h : lkQ s k = true) : (llnV (lineAt s k)).1.size ≤ 300 ∧ (llnV (lineAt s k)).2.size ≤ 300 := by
  have h1 := lineAt_size hk
  have h2 := (lkQ_iff.1 h).2
  have h3 := uptS_size 58 (lineAt s k)
  have h4 := bhS_size 58 (lineAt s k)
  have h5 := trimB_size (bhS 58 (lineAt s k))
  have h6 := foldB_size (uptS 58 (lineAt s k))
  unfold llnV
  constructor
  · show (foldB (uptS 58 (lineAt s k))).size ≤ 300; omega
  · show (trimB (bhS 58 (lineAt s k))).size ≤ 300; omega
theorem lsR_le {s : ByteArray} : ∀ (f k : Nat) (l : List Fd) (e : Nat), k ≤ s.size → lsR s f k = some (l, e) → e ≤ s.size ∧ l.length + k < e ∧ ∀ x ∈ l, x.1.size ≤ 300 ∧ x.2.size ≤ 300 := by
  intro f
  induction f with
  | zero => intro k l e _ h; cases h
  | succ f ih =>
    intro k l e hk h
    unfold lsR at h
    by_cases hq : lkQ s k = true
    · have h2 := tlE_ok hk (lkQ_iff.1 hq).1
      have h3 := tlE_ge s k
      rw [if_pos hq] at h
      by_cases he : tlE s k = k
      · rw [if_pos he] at h
        obtain ⟨rfl, rfl⟩ := Prod.mk.inj (Option.some.inj h)
        exact ⟨by omega, by simp, fun x hx => absurd hx List.not_mem_nil⟩
      · rw [if_neg he] at h
        by_cases ho : llnO (lineAt s k) = true
        · rw [if_pos ho] at h
          obtain ⟨⟨l', e'⟩, h4, h5⟩ := Option.map_eq_some_iff.1 h
          obtain ⟨rfl, rfl⟩ := Prod.mk.inj h5
          obtain ⟨i1, i2, i3⟩ := ih _ _ _ h2 h4
          refine ⟨i1, ?_, ?_⟩
          · simp only [List.length_cons]; omega
          · intro x hx
            rcases List.mem_cons.1 hx with rfl | hx
            · exact llnV_le hk hq
            · exact i3 x hx
        · rw [if_neg ho] at h; cases h
    · rw [if_neg hq] at h; cases h
theorem lsF_le {s : ByteArray} {k : Nat} {l : List Fd} {e : Nat} (hk : k ≤ s.size) (h : lsF s k = some (l, e)) : e ≤ s.size ∧ l.length + k < e ∧ ∀ x ∈ l, x.1.size ≤ 300 ∧ x.2.size ≤ 300 := lsR_le _ _ _ _ hk h
/-! The one line of a name. -/
def hitL (l : List Fd) (n : ByteArray) : List Fd := l.filter fun x => eqB x.1 n
def onlyV (l : List Fd) (n : ByteArray) : ByteArray := if (hitL l n).length = 1 then ((hitL l n).getD 0 (⟨#[]⟩, ⟨#[]⟩)).2 else ⟨#[]⟩
/-- The value that the last line of that name has, and how many there are. -/
def lastV (l : List Fd) (n : ByteArray) : ByteArray := ((hitL l n).getLast?.map Prod.snd).getD ⟨#[]⟩
theorem hitL_snoc (l : List Fd) (x : Fd) (n : ByteArray) : hitL (l ++ [x]) n = if eqB x.1 n = true then hitL l n ++ [x] else hitL l n := by
  unfold hitL
  rw [List.filter_append]
  by_cases h : eqB x.1 n = true
  · rw [if_pos h]; simp [h]
  · rw [if_neg h]; simp [h]
theorem onlyV_last (l : List Fd) (n : ByteArray) : onlyV l n = if (hitL l n).length = 1 then lastV l n else ⟨#[]⟩ := by
  unfold onlyV lastV
  by_cases h : (hitL l n).length = 1
  · rw [if_pos h, if_pos h]
    match hh : hitL l n, h with
    | [x], _ => rfl
  · rw [if_neg h, if_neg h]
theorem onlyV_le {l : List Fd} {N : Nat} (h : ∀ x ∈ l, x.1.size ≤ N ∧ x.2.size ≤ N) (n : ByteArray) : (onlyV l n).size ≤ N := by
  unfold onlyV
  by_cases h1 : (hitL l n).length = 1
  · rw [if_pos h1]
    match hh : hitL l n, h1 with
    | [x], _ =>
      have hx : x ∈ hitL l n := by rw [hh]; exact List.mem_singleton.2 rfl
      exact (h x (List.mem_filter.1 hx).1).2
  · rw [if_neg h1]; exact Nat.zero_le _
def brQ (s : ByteArray) : Bool := decide (3 ≤ s.size) && decide ((at8 s 0).toNat = 60) && decide ((at8 s (s.size - 1)).toNat = 62)
/-- warc-type, warc-record-id, warc-date, content-length -/
def tyF : ByteArray := ⟨#[119, 97, 114, 99, 45, 116, 121, 112, 101]⟩
def idF : ByteArray := ⟨#[119, 97, 114, 99, 45, 114, 101, 99, 111, 114, 100, 45, 105, 100]⟩
def daF : ByteArray := ⟨#[119, 97, 114, 99, 45, 100, 97, 116, 101]⟩
def lenF : ByteArray := ⟨#[99, 111, 110, 116, 101, 110, 116, 45, 108, 101, 110, 103, 116, 104]⟩
def sizeN (l : List Fd) : Int := rdecN (onlyV l lenF)
def sizeO (l : List Fd) : Bool := wqO (onlyV l daF) && rdecOk (onlyV l lenF) && tokB (onlyV l tyF) && brQ (onlyV l idF)
def verB : ByteArray := ⟨#[87, 65, 82, 67, 47, 49, 46, 49]⟩
def crlf2B : ByteArray := ⟨#[13, 10, 13, 10]⟩
/-- Behind the lines: the length that is told, the block and what ends it. -/
def finR (s : ByteArray) (l : List Fd) (e : Nat) : Option (ByteArray × Nat) :=
  if sizeO l = true ∧ (e : Int) + sizeN l + 4 ≤ (s.size : Int) ∧ eqB (s.extract (e + (sizeN l).toNat) (e + (sizeN l).toNat + 4)) crlf2B = true then some (s.extract e (e + (sizeN l).toNat), e + (sizeN l).toNat + 4) else none
def grV (s : ByteArray) (k : Nat) : Bool := decide (tlC s k = 0) && eqB (lineAt s k) verB
/-- A record as the looser reader takes it: its lines, its block, the place behind it. -/
def grF (s : ByteArray) (k : Nat) : Option (List Fd × ByteArray × Nat) :=
  if grV s k = true then (lsF s (tlE s k + 2)).bind fun p => (finR s p.1 p.2).map fun q => (p.1, q.1, q.2) else none
theorem rdecN_nonneg (s : ByteArray) : 0 ≤ rdecN s := Int.natCast_nonneg _
theorem sizeN_nonneg (l : List Fd) : 0 ≤ sizeN l := rdecN_nonneg _
theorem finR_le {s : ByteArray} {l : List Fd} {e : Nat} {b : ByteArray} {n : Nat} (h : finR s l e = some (b, n)) : e + 4 ≤ n ∧ n ≤ s.size := by
  unfold finR at h
  split at h
  · rename_i hh
    obtain ⟨rfl, rfl⟩ := Prod.mk.inj (Option.some.inj h)
    have := sizeN_nonneg l
    omega
  · cases h
theorem grV_ok {s : ByteArray} {k : Nat} (hk : k ≤ s.size) (h : grV s k = true) : tlE s k + 2 ≤ s.size := by
  unfold grV at h
  rw [Bool.and_eq_true, decide_eq_true_eq] at h
  exact tlE_ok hk h.1
theorem grF_le {s : ByteArray} {k : Nat} {l : List Fd} {b : ByteArray} {n : Nat} (hk : k ≤ s.size) (h : grF s k = some (l, b, n)) : k < n ∧ n ≤ s.size := by
  unfold grF at h
  split at h
  · rename_i hv
    have h1 := grV_ok hk hv
    have h2 := tlE_ge s k
    obtain ⟨⟨l', e⟩, h3, h4⟩ := Option.bind_eq_some_iff.1 h
    obtain ⟨⟨b', n'⟩, h5, h6⟩ := Option.map_eq_some_iff.1 h4
    obtain ⟨_, h7⟩ := Prod.mk.inj h6
    obtain ⟨_, rfl⟩ := Prod.mk.inj h7
    have h8 := finR_le h5
    have h9 := lsF_le h1 h3
    omega
  · cases h
/-- How many records from k on, where f bounds them; none where one of them is none. -/
def grmR (s : ByteArray) : Nat → Nat → Option Nat
  | 0, _ => none
  | f + 1, k => if s.size ≤ k then some 0 else (grF s k).bind fun p => (grmR s f p.2.2).map (· + 1)
theorem grmR_fuel (s : ByteArray) : ∀ (f g k : Nat), k ≤ s.size → s.size + 1 - k ≤ f → s.size + 1 - k ≤ g → grmR s f k = grmR s g k := by
  intro f
  induction f with
  | zero => intro g k hk h0 _; omega
  | succ f ih =>
    intro g k hk h0 h1
    match g, h1 with
    | 0, h1 => omega
    | g + 1, h1 =>
      unfold grmR
      by_cases hq : s.size ≤ k
      · rw [if_pos hq, if_pos hq]
      · rw [if_neg hq, if_neg hq]
        cases hg : grF s k with
        | none => rfl
        | some p =>
          obtain ⟨l, b, n⟩ := p
          have h2 := grF_le hk hg
          show (grmR s f n).map _ = (grmR s g n).map _
          rw [ih g n h2.2 (by omega) (by omega)]
def grmF (s : ByteArray) (k : Nat) : Option Nat := grmR s (s.size + 1) k
theorem grmF_end {s : ByteArray} {k : Nat} (h : s.size ≤ k) : grmF s k = some 0 := by
  show grmR s (s.size + 1) k = _
  unfold grmR
  rw [if_pos h]
theorem grmF_step {s : ByteArray} {k : Nat} (hk : k < s.size) : grmF s k = (grF s k).bind fun p => (grmF s p.2.2).map (· + 1) := by
  show grmR s (s.size + 1) k = _
  unfold grmR
  rw [if_neg (by omega)]
  cases hg : grF s k with
  | none => rfl
  | some p =>
    obtain ⟨l, b, n⟩ := p
    have h2 := grF_le (Nat.le_of_lt hk) hg
    show (grmR s s.size n).map _ = (grmR s (s.size + 1) n).map _
    rw [grmR_fuel s s.size (s.size + 1) n h2.2 (by omega) (by omega)]
def gramV (s : ByteArray) : Int := if s.size ≤ 60000 then (match grmF s 0 with | some n => (n : Int) | none => -1) else -1
/-! The same as the specification takes it: line by line. -/
def cntL (l : List Fd) (n : ByteArray) : Nat := (hitL l n).length
def spQ (x : Fd) : Bool :=
  if eqB x.1 tyF = true then tokB x.2 else if eqB x.1 idF = true then brQ x.2 else if eqB x.1 daF = true then wqO x.2 else if eqB x.1 lenF = true then rdecOk x.2 else true
theorem eqB_not {a b c : ByteArray} (h : eqB a b = true) (hbc : eqB b c = false) : eqB a c = false := by rw [eqB_iff.1 h]; exact hbc
theorem onlyV_mem {l : List Fd} {n : ByteArray} {x : Fd} (hx : x ∈ l) (hn : eqB x.1 n = true) (h1 : cntL l n = 1) : onlyV l n = x.2 := by
  unfold onlyV
  unfold cntL at h1
  rw [if_pos h1]
  have hm : x ∈ hitL l n := List.mem_filter.2 ⟨hx, hn⟩
  match hh : hitL l n, h1 with
  | [y], _ =>
    rw [hh, List.mem_singleton] at hm
    rw [hm]; rfl
theorem onlyV_ex {l : List Fd} {n : ByteArray} (h1 : cntL l n = 1) : ∃ x ∈ l, eqB x.1 n = true ∧ onlyV l n = x.2 := by
  unfold cntL at h1
  match hh : hitL l n, h1 with
  | [y], _ =>
    have hm : y ∈ hitL l n := by rw [hh]; exact List.mem_singleton.2 rfl
    obtain ⟨h2, h3⟩ := List.mem_filter.1 hm
    exact ⟨y, h2, h3, onlyV_mem h2 h3 (by unfold cntL; rw [hh]; rfl)⟩
theorem onlyV_none {l : List Fd} {n : ByteArray} (h1 : cntL l n ≠ 1) : onlyV l n = ⟨#[]⟩ := by
  unfold onlyV; unfold cntL at h1; rw [if_neg h1]
theorem tokB_emp : tokB ⟨#[]⟩ = false := by kernel_rfl
theorem brQ_emp : brQ ⟨#[]⟩ = false := by kernel_rfl
theorem wqO_emp : wqO ⟨#[]⟩ = false := by kernel_rfl
theorem rdecOk_emp : rdecOk ⟨#[]⟩ = false := by decide +kernel
theorem sizeO_iff (l : List Fd) : sizeO l = true ↔ (cntL l tyF = 1 ∧ cntL l idF = 1 ∧ cntL l daF = 1 ∧ cntL l lenF = 1) ∧ ∀ x ∈ l, spQ x = true := by
  constructor
  · intro h
    unfold sizeO at h
    rw [Bool.and_eq_true, Bool.and_eq_true, Bool.and_eq_true] at h
    obtain ⟨⟨⟨h1, h2⟩, h3⟩, h4⟩ := h
    have c3 : cntL l daF = 1 := by
      by_cases hc : cntL l daF = 1
      · exact hc
      · rw [onlyV_none hc, wqO_emp] at h1; cases h1
    have c4 : cntL l lenF = 1 := by
      by_cases hc : cntL l lenF = 1
      · exact hc
      · rw [onlyV_none hc, rdecOk_emp] at h2; cases h2
    have c1 : cntL l tyF = 1 := by
      by_cases hc : cntL l tyF = 1
      · exact hc
      · rw [onlyV_none hc, tokB_emp] at h3; cases h3
    have c2 : cntL l idF = 1 := by
      by_cases hc : cntL l idF = 1
      · exact hc
      · rw [onlyV_none hc, brQ_emp] at h4; cases h4
    refine ⟨⟨c1, c2, c3, c4⟩, fun x hx => ?_⟩
    unfold spQ
    by_cases e1 : eqB x.1 tyF = true
    · rw [if_pos e1, ← onlyV_mem hx e1 c1]; exact h3
    · rw [if_neg e1]
      by_cases e2 : eqB x.1 idF = true
      · rw [if_pos e2, ← onlyV_mem hx e2 c2]; exact h4
      · rw [if_neg e2]
        by_cases e3 : eqB x.1 daF = true
        · rw [if_pos e3, ← onlyV_mem hx e3 c3]; exact h1
        · rw [if_neg e3]
          by_cases e4 : eqB x.1 lenF = true
          · rw [if_pos e4, ← onlyV_mem hx e4 c4]; exact h2
          · rw [if_neg e4]
  · rintro ⟨⟨c1, c2, c3, c4⟩, h⟩
    obtain ⟨x1, m1, n1, o1⟩ := onlyV_ex c1
    obtain ⟨x2, m2, n2, o2⟩ := onlyV_ex c2
    obtain ⟨x3, m3, n3, o3⟩ := onlyV_ex c3
    obtain ⟨x4, m4, n4, o4⟩ := onlyV_ex c4
    unfold sizeO
    rw [o1, o2, o3, o4]
    have k1 := h x1 m1
    have k2 := h x2 m2
    have k3 := h x3 m3
    have k4 := h x4 m4
    unfold spQ at k1 k2 k3 k4
    rw [if_pos n1] at k1
    rw [if_neg (by rw [eqB_not n2 (by kernel_rfl)]; decide), if_pos n2] at k2
    rw [if_neg (by rw [eqB_not n3 (by kernel_rfl)]; decide), if_neg (by rw [eqB_not n3 (by kernel_rfl)]; decide), if_pos n3] at k3
    rw [if_neg (by rw [eqB_not n4 (by kernel_rfl)]; decide), if_neg (by rw [eqB_not n4 (by kernel_rfl)]; decide), if_neg (by rw [eqB_not n4 (by kernel_rfl)]; decide), if_pos n4] at k4
    rw [k1, k2, k3, k4]; rfl
end Go.Proofs.YtffjpidjhcnnmabDoor
