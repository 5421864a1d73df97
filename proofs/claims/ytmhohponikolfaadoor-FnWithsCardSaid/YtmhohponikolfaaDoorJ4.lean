/-
  The drawing functions of chapter 5: lists of fields, bent or not. · Chapter 5: HopNames and EndToEnd, the specification's side. · What goes from end to end goes so again: on lists; the draw and the comparison of FnHops. · FnWiths: what is put in is there alone by its name: on lists; the draw. · Plain functions of chapter 1: what quotes hold. No Go in sight. · Plain functions of chapter 1: what is quoted, read back and found among elements. No Go in sight. · The walks over chapter 1: DrawQuote, sameTexts. · What every frame of this seat shares. · The code that a law is handed, as the walks want it. · What a card of a door seat of chapter 1 needs: the listed tables. · What a card of a door seat of chapter 5 needs: the table of the seven names.
-/
import Derived.Test.YtmhohponikolfaaDoorJ3
import Derived.Test.YtmhohponikolfaaDoorJ2
import Derived.Laws.OwnMore
import Derived.Test.YtmhohponikolfaaDoorJ0
import Derived.Lib.SmallJoins
import Derived.Test.YtmhohponikolfaaDoorJ1
import Derived.Test.YtmhohponikolfaaDoorRows
import Derived.WalkKit
import Derived.ProofKit
import Derived.OpenShut
import Derived.ShutString
import Derived.ChangeOld
import Derived.Below
import Derived.Lib.LaidTab
import Derived.LaidLaws
import Derived.LaidHandle
import Derived.ChangeVars
import Derived.OpenVars
import Derived.SevenTiedAt
namespace Go.Proofs.YtmhohponikolfaaDoor
set_option linter.unusedVariables false
set_option linter.unusedSimpArgs false
open Go.RowKit
/-- A row of fields that grows while numbers are drawn. -/
structure DBufF (p : Nat) (w0 w : World) (v : Value) (l : List Fd) : Prop where
  kp : Kp p w0 w
  own : w.ownsRow w0.heap.size 25 2 v l.length (cellsF l)
  st : Drw w p
  lt : p < w0.heap.size
theorem DBufF.start {p : Nat} {w : World} (h : Drw w p) : DBufF p w w (.slice none 0 0) [] := ⟨Kp.refl _ _, World.ownsRow_nil _ _ _ _, h, h.lt⟩
theorem DBufF.draw {p : Nat} {w0 w w' : World} {v : Value} {l : List Fd} (h : DBufF p w0 w v l) (hk : Kp p w w') (hd : Drw w' p) : DBufF p w0 w' v l := by
  refine ⟨h.kp.trans hk, h.own.kept hk ?_, hd, h.lt⟩
  cases hv : v.ownBlock with
  | none => exact Or.inl rfl
  | some g =>
    right
    intro e
    injection e with e
    have := (h.own.lt g hv).1
    have := h.lt
    omega
theorem DBufF.form {p : Nat} {w0 w : World} {v : Value} {l : List Fd} (h : DBufF p w0 w v l) : ∃ (a : Option Addr) (c : Nat), v = .slice a l.length c := by
  rcases h.own.2 with ⟨h1, h2⟩ | ⟨g, cap, cur, h1, _⟩
  · exact ⟨none, 0, by rw [h1, h2]⟩
  · exact ⟨_, _, h1⟩
theorem wp_dfapp {ops : Array Oper} {rest : List Oper} {o : Oper} {a : Act} {Q : Exit → Act → World → Prop} {p : Nat} {w0 W : World} (hgd : o.guard = none) (s x : Operand)
    (ho : o.op = .call { callee := .builtin .append, args := #[s, x], argTypes := #[23, 23] }) (v : Value) (l : List Fd) (hs : a.eval s = v) (hbuf : DBufF p w0 W v l)
    (d t : ByteArray) (hx : a.eval x = .slice (some ⟨W.heap.size, 0, none⟩) 1 1) (hlen : l.length ≤ 1000)
    (h : ∀ v' W', DBufF p w0 W' v' (l ++ [(d, t)]) → wpList Tryd.prog ops Q rest (a.put o.dst v') W') :
    wpList Tryd.prog ops Q (o :: rest) a (W.alloc (.cells #[.string d, .string t] 25)) := by
  obtain ⟨i0, hi, hz0, hz1, hz2⟩ := info_parts Tryd.infoF
  have hsz := hbuf.kp.size
  refine wpList_append_own _ hgd s x 23 ho w0.heap.size 25 i0 _ 2 32 Tryd.underlying23 hi hz0 hz1 hz2 rfl (by decide) v l.length (cellsF l) hs (hbuf.own.alloc _) ⟨W.heap.size, 0, none⟩ 1 1 (cellsF [(d, t)]) hx (by rw [cellsF_len]; rfl) ?_ (cellsF_one _) (by unfold maxLen; omega) (by omega) (by simp; omega) ?_
  · intro j u hu
    have hj : j < 2 := by have := (List.getElem?_eq_some_iff.1 hu).1; rwa [cellsF_len] at this
    rw [Addr.add_lit, Nat.zero_add, (Blk.new W _ _).cell j, ← hu]
    rcases j with _ | _ | j
    · rfl
    · rfl
    · omega
  intro v' W' hown hgrow _
  have hne : ∀ k, v.ownBlock = some k → w0.heap.size ≤ k := fun k hk => (hbuf.own.lt k hk).1
  have hlt := hbuf.lt
  have hstlt := hbuf.st.lt
  refine h v' W' ⟨?_, ?_, ?_, hlt⟩
  · refine ⟨hgrow.os.trans (hbuf.kp.alloc _).os, hgrow.tape.trans (hbuf.kp.alloc _).tape, hgrow.output.trans (hbuf.kp.alloc _).output, Nat.le_trans (hbuf.kp.alloc _).size hgrow.size, fun k hk hkne => ?_⟩
    refine (hgrow.block k ?_ ?_).trans ((hbuf.kp.alloc _).block k hk hkne)
    · simp; omega
    · intro e; have := hne k e.symm; omega
  · rw [List.length_append, List.length_singleton, cellsF_app]
    exact hown
  · obtain ⟨a1, len, cap, i, hh, h1, h2, h3⟩ := hbuf.st
    have old : ∀ k, k < w0.heap.size → W'.heap[k]? = W.heap[k]? := by
      intro k hk
      rw [hgrow.block k (by simp; omega) (fun e => by have := hne k e.symm; omega)]
      exact Below.heap_alloc _ _ _ (by omega)
    exact ⟨a1, len, cap, i, hh, (old p hlt).trans h1, h2.kept (fun k hk => old k (by omega)), h3⟩
def slLen : Value → Nat
  | .slice _ n _ => n
  | _ => 0
/-- Names and values are short. -/
def Short (l : List Fd) : Prop := ∀ x ∈ l, x.1.size ≤ 100 ∧ x.2.size ≤ 100
theorem Short.snoc {l : List Fd} (h : Short l) {d s : ByteArray} (hd : d.size ≤ 100) (hs : s.size ≤ 100) : Short (l ++ [(d, s)]) := by
  intro x hx
  rcases List.mem_append.1 hx with hx | hx
  · exact h x hx
  · simp at hx; subst hx; exact ⟨hd, hs⟩
theorem short_tot {l : List Fd} (h : Short l) (hl : l.length ≤ 100) : totF l ≤ 1099511627776 := by
  have : ∀ m : List Fd, Short m → totF m ≤ m.length * 200 := by
    intro m
    induction m with
    | nil => intro _; simp [totF]
    | cons x m ih =>
      intro hs
      have h1 := hs x (by simp)
      have h2 := ih (fun y hy => hs y (by simp [hy]))
      have e : totF (x :: m) = szF x + totF m := by simp [totF]
      rw [e, List.length_cons, Nat.add_mul]
      simp only [szF]; omega
  have h1 := this l h
  have h2 : l.length * 200 ≤ 100 * 200 := Nat.mul_le_mul_right _ hl
  omega
set_option maxRecDepth 10000 in
set_option maxHeartbeats 4000000 in
theorem l5list_any (p : Nat) (w : World) (hd : Drw w p) :
    Calls Tryd.prog 29 #[.pointer (some ⟨p, 0, none⟩)] w fun e w' => ∃ v l, e = .returned v ∧ l.length ≤ 21 ∧ (∀ x ∈ l, x.1.size ≤ 40 ∧ x.2.size ≤ 40) ∧ DBufF p w w' v l := by
  go_enter Tryd.func29, Tryd.ntmps29
  go_wp2_with fail
  refine (l1Below_any p 7 _ hd (by omega)).mono ?_
  rintro e w1 ⟨⟨n, hn, _, _, rfl⟩, hk1, hd1⟩
  have hn7 : n < 7 := by have := hn (by omega); omega
  have HB0 := hideB2 ((DBufF.start hd).draw hk1 hd1)
  clear hn hk1 hd1 hd
  go_wp2
  go_loopw [3, 4] (fun o i wr => ∃ (k : Nat) (l : List Fd), i = .int .i64 k ∧ l.length + k ≤ 6 ∧ (∀ x ∈ l, x.1.size ≤ 40 ∧ x.2.size ≤ 40) ∧ DBufF p w wr o l) (fun _ i _ => (intOf i).toNat)
  case atStart => exact ⟨n, [], rfl, by simp; omega, fun x hx => by simp at hx, HB0.out⟩
  case round =>
    obtain ⟨k, l, rfl, hl, hsh, hbuf⟩ := hrel
    clear HB0
    have HSH := hideB2 hsh
    by_cases hk0 : 0 < k
    · obtain ⟨j, rfl⟩ : ∃ j, k = j + 1 := ⟨k - 1, by omega⟩
      have h1 : (0 : Int) < ((j + 1 : Nat) : Int) := by omega
      have e1 : IntKind.i64.wrap (((j + 1 : Nat) : Int) - 1) = (j : Int) := by rw [IntKind.wrap_i64]; omega
      clear hsh
      go_wp2_with (first | (go_at_call 17; refine (l5field_any p _ hbuf.st).mono ?_; rintro e w2 ⟨⟨d, s, hds, hss, rfl⟩, hk2, hd2⟩; have hbuf2 := hbuf.draw hk2 hd2) | (at_builtin; refine wp_dfapp rfl (.tmp 11) (.tmp 14) rfl _ _ rfl hbuf2 d s rfl (by omega) ?_; intro v3 W3 hbuf3))
      refine ⟨⟨j, l ++ [(d, s)], by go_num, by simp; omega, ?_, hbuf3⟩, by simp [intOf]⟩
      intro x hx
      rcases List.mem_append.1 hx with hx | hx
      · exact HSH.out x hx
      · simp at hx; subst hx; exact ⟨by simp only; omega, by simp only; omega⟩
    · have h1 : ¬ (0 : Int) < (k : Int) := by omega
      clear hsh
      go_wp2_with fail
      refine (l1Once_any p 12 _ hbuf.st (by omega)).mono ?_
      rintro e w2 ⟨⟨b2, rfl⟩, hk2, hd2⟩
      have hbuf2 := hbuf.draw hk2 hd2
      clear hbuf hk2 hd2 h1
      cases b2
      · go_wp2
        go_ret
        exact ⟨_, l, rfl, by omega, HSH.out, hbuf2⟩
      · have HB2 := hideB2 hbuf2
        clear hbuf2
        go_wp2
        go_loopw [3] (fun o wq => ∃ (m : List Fd), m.length ≤ 21 ∧ (∀ x ∈ m, x.1.size ≤ 40 ∧ x.2.size ≤ 40) ∧ DBufF p w wq o m) (fun o _ => 22 - slLen o)
        case atStart => exact ⟨l, by omega, HSH.out, HB2.out⟩
        case round =>
          obtain ⟨m, hm, hsh, hbuf⟩ := hrel
          have HSM := hideB2 hsh
          obtain ⟨ao, co, rfl⟩ := hbuf.form
          clear hsh HB2 HSH
          go_wp2_with fail
          refine (l1Below_any p 2 _ hbuf.st (by omega)).mono ?_
          rintro e w3 ⟨⟨u, hu, _, _, rfl⟩, hk3, hd3⟩
          have hu2 : u < 2 := by have := hu (by omega); omega
          have hbuf3 := hbuf.draw hk3 hd3
          have e1 : IntKind.i64.wrap (20 + (u : Int)) = 20 + (u : Int) := by rw [IntKind.wrap_i64]; omega
          clear hbuf hk3 hd3 hu
          by_cases hlt : (m.length : Int) < 20 + (u : Int)
          · go_wp2_with (at_builtin; refine wp_dfapp rfl (.tmp 24) (.tmp 26) rfl _ _ rfl hbuf3 ⟨#[70]⟩ ⟨#[]⟩ rfl (by omega) ?_; intro v4 W4 hbuf4)
            obtain ⟨a4, c4, rfl⟩ := hbuf4.form
            refine ⟨⟨m ++ [(⟨#[70]⟩, ⟨#[]⟩)], by simp; omega, ?_, hbuf4⟩, by simp [slLen]; omega⟩
            intro x hx
            rcases List.mem_append.1 hx with hx | hx
            · exact HSM.out x hx
            · simp at hx; subst hx; decide
          · go_wp2
            go_ret
            exact ⟨_, m, rfl, hm, HSM.out, hbuf3⟩
theorem cellsF_setN (l : List Fd) (d : ByteArray) : ∀ k, k < l.length → (cellsF l).set (k * 2) (.string d) = cellsF (l.set k (d, (fdAt l k).2)) := by
  induction l with
  | nil => intro k hk; simp at hk
  | cons x l ih =>
    intro k hk
    cases k with
    | zero => rfl
    | succ k =>
      rw [cellsF_cons, List.set_cons_succ, cellsF_cons, show (k + 1) * 2 = k * 2 + 1 + 1 by omega, List.set_cons_succ, List.set_cons_succ, ih k (by simpa using hk)]; rfl
theorem cellsF_setV (l : List Fd) (d : ByteArray) : ∀ k, k < l.length → (cellsF l).set (k * 2 + 1) (.string d) = cellsF (l.set k ((fdAt l k).1, d)) := by
  induction l with
  | nil => intro k hk; simp at hk
  | cons x l ih =>
    intro k hk
    cases k with
    | zero => rfl
    | succ k =>
      have e := ih k (by simpa using hk)
      rw [show (k + 1) * 2 + 1 = k * 2 + 1 + 1 + 1 by omega, cellsF_cons, List.set_cons_succ, List.set_cons_succ, e, List.set_cons_succ, cellsF_cons]; rfl
theorem DBufF.store {p : Nat} {w0 w : World} {g cap : Nat} {l l' : List Fd} (h : DBufF p w0 w (.slice (some ⟨g, 0, none⟩) l.length cap) l) (j : Nat) (y : ByteArray) (hl : l'.length = l.length) (hc : (cellsF l).set j (.string y) = cellsF l') : DBufF p w0 (w.setCell ⟨g, j, none⟩ (.string y)) (.slice (some ⟨g, 0, none⟩) l.length cap) l' := by
  have hg := (h.own.lt g rfl).1
  have hlt := h.lt
  refine ⟨h.kp.setNew hg j _, ?_, h.st.setNew (by omega) j _, h.lt⟩
  rw [hl, ← hc]
  exact (h.own.stored j (.string y)).1
theorem DBufF.at {p : Nat} {w0 w : World} {a : Option Addr} {n cap : Nat} {l : List Fd} (h : DBufF p w0 w (.slice a n cap) l) {k : Nat} (hk : k < l.length) : ∃ g, a = some ⟨g, 0, none⟩ ∧ w0.heap.size ≤ g ∧ w.cell? ⟨g, k * 2, none⟩ = some (.string (fdAt l k).1) ∧ w.cell? ⟨g, k * 2 + 1, none⟩ = some (.string (fdAt l k).2) ∧ w.frozen? ⟨g, k * 2, none⟩ = false ∧ w.frozen? ⟨g, k * 2 + 1, none⟩ = false := by
  have ho := h.own
  rcases h.own.2 with ⟨h1, h2⟩ | ⟨g, cap', cur, h1, hg, hh, _⟩
  · omega
  · injection h1 with e1 e2 e3
    subst e1 e2 e3
    refine ⟨g, rfl, hg, ?_, ?_, ho.frozenAt _, ho.frozenAt _⟩
    · rw [ho.cellAt (k * 2) (by omega)]; exact (cellsF_at l k hk).1
    · rw [ho.cellAt (k * 2 + 1) (by omega)]; exact (cellsF_at l k hk).2
theorem Short.set {l : List Fd} (h : Short l) (k : Nat) {x : Fd} (hx : x.1.size ≤ 100 ∧ x.2.size ≤ 100) : Short (l.set k x) := by
  intro y hy
  rcases List.mem_or_eq_of_mem_set hy with hy | rfl
  · exact h y hy
  · exact hx
theorem short_of {l : List Fd} (h : ∀ x ∈ l, x.1.size ≤ 40 ∧ x.2.size ≤ 40) : Short l := fun x hx => by have := h x hx; omega
set_option maxRecDepth 10000 in
set_option maxHeartbeats 4000000 in
theorem l5bent_any (p : Nat) (w : World) (hd : Drw w p) :
    Calls Tryd.prog 16 #[.pointer (some ⟨p, 0, none⟩)] w fun e w' => ∃ v l, e = .returned v ∧ l.length ≤ 21 ∧ Short l ∧ DBufF p w w' v l := by
  go_enter Tryd.func16, Tryd.ntmps16
  go_wp2_with fail
  refine (l5list_any p _ hd).mono ?_
  rintro e w1 ⟨v, l, rfl, hl, hsh, hbuf⟩
  obtain ⟨a1, c1, rfl⟩ := hbuf.form
  have HSH := hideB2 hsh
  clear hsh hd
  go_wp2_with fail
  refine (l1Once_any p 8 _ hbuf.st (by omega)).mono ?_
  rintro e w2 ⟨⟨b, rfl⟩, hk2, hd2⟩
  have hbuf2 := hbuf.draw hk2 hd2
  clear hbuf hk2 hd2
  cases b
  · go_wp2
    go_ret
    exact ⟨_, l, rfl, hl, short_of HSH.out, hbuf2⟩
  · by_cases h0 : 0 < l.length
    · have h0' : (0 : Int) < (l.length : Int) := by omega
      go_wp2_with fail
      refine (l1Below_any p (l.length : Int) _ hbuf2.st (by omega)).mono ?_
      rintro e w3 ⟨⟨k, hk, _, _, rfl⟩, hk3, hd3⟩
      have hkl : k < l.length := by have := hk (by omega); omega
      have hbuf3 := hbuf2.draw hk3 hd3
      clear hbuf2 hk3 hd3 hk
      have hki : (k : Int) < (l.length : Int) := by omega
      go_wp2_with fail
      refine (l1Below_any p 3 _ hbuf3.st (by omega)).mono ?_
      rintro e w4 ⟨⟨u, hu, _, _, rfl⟩, hk4, hd4⟩
      have hu3 : u < 3 := by have := hu (by omega); omega
      have hbuf4 := hbuf3.draw hk4 hd4
      clear hbuf3 hk4 hd4 hu
      obtain ⟨g, rfl, hg, p0, p1, f0, f1⟩ := hbuf4.at hkl
      have hx := HSH.out (fdAt l k) (by rw [fdAt_get hkl]; exact List.getElem_mem _)
      have HCN := hideB2 (fun d => cellsF_setN l d k hkl)
      have HCV := hideB2 (fun d => cellsF_setV l d k hkl)
      generalize fdAt l k = x at *
      obtain ⟨d, s⟩ := x
      simp only at p0 p1 hx HCN HCV
      have hc : u = 0 ∨ u = 1 ∨ u = 2 := by omega
      rcases hc with rfl | rfl | rfl
      · go_wp2_with fail
        refine (l1bend_any p d _ hbuf4.st (by omega)).mono ?_
        rintro e w5 ⟨⟨t, ht, rfl⟩, hk5, hd5⟩
        have hbuf5 := hbuf4.draw hk5 hd5
        clear p0 p1 f0 f1
        obtain ⟨g', e', _, p0, p1, f0, f1⟩ := hbuf5.at hkl
        cases e'
        have HB := hideB2 (hbuf5.store (k * 2) t (l' := l.set k (t, s)) (by simp) (HCN.out t))
        have HLL := hideB2 (show (l.set k (t, s)).length = l.length by simp)
        have HS2 := hideB2 ((short_of HSH.out).set k (x := (t, s)) (by constructor <;> simp only <;> omega))
        generalize fdAt l k = x at *
        clear hbuf4 hbuf5 hk5 hd5 HCN HCV
        go_wp2
        go_ret
        exact ⟨_, l.set k (t, s), rfl, by rw [HLL.out]; exact hl, HS2.out, HB.out⟩
      · have HB := hideB2 (hbuf4.store (k * 2 + 1) ((⟨#[32]⟩ : ByteArray) ++ s) (l' := l.set k (d, (⟨#[32]⟩ : ByteArray) ++ s)) (by simp) (HCV.out _))
        have HLL := hideB2 (show (l.set k (d, (⟨#[32]⟩ : ByteArray) ++ s)).length = l.length by simp)
        have h33 : (⟨#[32]⟩ ++ s : ByteArray).size ≤ 41 := by
          rw [ByteArray.size_append]
          have : (ByteArray.mk #[32]).size = 1 := rfl
          omega
        have HS2 := hideB2 ((short_of HSH.out).set k (x := (d, (⟨#[32]⟩ : ByteArray) ++ s)) (by constructor <;> simp only <;> omega))
        clear hbuf4 HCN HCV
        go_wp2
        go_ret
        exact ⟨_, _, rfl, Nat.le_trans (Nat.le_of_eq HLL.out) hl, HS2.out, HB.out⟩
      · go_wp2_with fail
        refine (l1bend_any p s _ hbuf4.st (by omega)).mono ?_
        rintro e w5 ⟨⟨t, ht, rfl⟩, hk5, hd5⟩
        have hbuf5 := hbuf4.draw hk5 hd5
        clear p0 p1 f0 f1
        obtain ⟨g', e', _, p0, p1, f0, f1⟩ := hbuf5.at hkl
        cases e'
        have HB := hideB2 (hbuf5.store (k * 2 + 1) t (l' := l.set k (d, t)) (by simp) (HCV.out t))
        have HLL := hideB2 (show (l.set k (d, t)).length = l.length by simp)
        have HS2 := hideB2 ((short_of HSH.out).set k (x := (d, t)) (by constructor <;> simp only <;> omega))
        generalize fdAt l k = x at *
        clear hbuf4 hbuf5 hk5 hd5 HCN HCV
        go_wp2
        go_ret
        exact ⟨_, l.set k (d, t), rfl, by rw [HLL.out]; exact hl, HS2.out, HB.out⟩
    · have h0' : ¬ (0 : Int) < (l.length : Int) := by omega
      go_wp2
      go_ret
      exact ⟨_, l, rfl, hl, short_of HSH.out, hbuf2⟩
end Go.Proofs.YtmhohponikolfaaDoor
namespace Go.Proofs.YtmhohponikolfaaDoor
set_option linter.unusedVariables false
set_option linter.unusedSimpArgs false
open Go.RowKit Go.Maps
theorem inNl_no {M : List ByteArray} {s : ByteArray} (h : ∀ j, j < M.length → eqB (txAt M j) s = false) : inNl M s = false := by
  cases hh : inNl M s with
  | false => rfl
  | true =>
    have := inNl_iff.1 hh
    obtain ⟨j, hj, he⟩ := List.mem_iff_getElem.1 this
    have h1 := h j hj
    rw [txAt_get hj, he, eqB_self] at h1
    cases h1
theorem inNl_yes {M : List ByteArray} {s : ByteArray} {j : Nat} (hj : j < M.length) (h : eqB (txAt M j) s = true) : inNl M s = true := by
  rw [inNl_iff, ← eqB_iff.1 h, txAt_get hj]; exact List.getElem_mem _
/-- What stands in the new list after k of the old one: s has been put in (t) or not. -/
def putTo (M : List ByteArray) (s : ByteArray) (k : Nat) (t : Bool) : List ByteArray := if t = true then insM s (M.take k) else M.take k
def pastK (M : List ByteArray) (s : ByteArray) (k : Nat) (t : Bool) : Prop := (t = true → ∃ x ∈ M.take k, Op.bytesLess s.toList x.toList = true) ∧ (t = false → ∀ x ∈ M.take k, Op.bytesLess s.toList x.toList = false)
theorem take_txt (M : List ByteArray) (k : Nat) (h : k < M.length) : M.take (k + 1) = M.take k ++ [txAt M k] := by rw [List.take_succ_eq_append_getElem h, txAt_get h]
theorem putTo_yes {M : List ByteArray} {s : ByteArray} {k : Nat} (h : k < M.length) (hp : pastK M s k true) : pastK M s (k + 1) true ∧ putTo M s (k + 1) true = putTo M s k true ++ [txAt M k] := by
  refine ⟨⟨fun _ => ?_, fun hh => by cases hh⟩, ?_⟩
  · obtain ⟨x, hx, hl⟩ := hp.1 rfl
    exact ⟨x, by rw [take_txt M k h]; simp [hx], hl⟩
  · unfold putTo
    rw [if_pos rfl, if_pos rfl, take_txt M k h, insM_done _ _ _ (hp.1 rfl)]
theorem putTo_here {M : List ByteArray} {s : ByteArray} {k : Nat} (h : k < M.length) (hp : pastK M s k false) (hl : Op.bytesLess s.toList (txAt M k).toList = true) : pastK M s (k + 1) true ∧ putTo M s (k + 1) true = putTo M s k false ++ [s] ++ [txAt M k] := by
  refine ⟨⟨fun _ => ⟨_, by rw [take_txt M k h]; simp, hl⟩, fun hh => by cases hh⟩, ?_⟩
  unfold putTo
  rw [if_pos rfl, if_neg (by simp), take_txt M k h, insM_past _ _ _ (hp.2 rfl), insM, if_pos hl]; simp
theorem putTo_on {M : List ByteArray} {s : ByteArray} {k : Nat} (h : k < M.length) (hp : pastK M s k false) (hl : Op.bytesLess s.toList (txAt M k).toList = false) : pastK M s (k + 1) false ∧ putTo M s (k + 1) false = putTo M s k false ++ [txAt M k] := by
  refine ⟨⟨fun hh => (by cases hh), fun _ x hx => ?_⟩, ?_⟩
  · rw [take_txt M k h, List.mem_append, List.mem_singleton] at hx
    rcases hx with hx | rfl
    · exact hp.2 rfl x hx
    · exact hl
  · unfold putTo
    rw [if_neg (by simp), if_neg (by simp), take_txt M k h]
theorem putTo_end_yes {M : List ByteArray} {s : ByteArray} : putTo M s M.length true = insM s M := by unfold putTo; rw [if_pos rfl, List.take_length]
theorem putTo_end_no {M : List ByteArray} {s : ByteArray} (hp : pastK M s M.length false) : putTo M s M.length false ++ [s] = insM s M := by
  have h2 := hp.2 rfl
  unfold putTo
  rw [if_neg (by simp)]
  rw [List.take_length] at h2 ⊢
  have := insM_past s M [] h2
  rw [List.append_nil] at this
  rw [this]; rfl
theorem putTo_len (M : List ByteArray) (s : ByteArray) (k : Nat) (t : Bool) : (putTo M s k t).length ≤ M.length + 1 := by
  unfold putTo
  split
  · rw [insM_len, List.length_take]; omega
  · rw [List.length_take]; omega
/-- The seven in a row of the call's own. -/
theorem base7_buf (w : World) : BufS w (w.alloc (.cells #[.string ⟨#[99, 111, 110, 110, 101, 99, 116, 105, 111, 110]⟩, .string ⟨#[107, 101, 101, 112, 45, 97, 108, 105, 118, 101]⟩, .string ⟨#[112, 114, 111, 120, 121, 45, 99, 111, 110, 110, 101, 99, 116, 105, 111, 110]⟩, .string ⟨#[116, 101]⟩, .string ⟨#[116, 114, 97, 105, 108, 101, 114]⟩, .string ⟨#[116, 114, 97, 110, 115, 102, 101, 114, 45, 101, 110, 99, 111, 100, 105, 110, 103]⟩, .string ⟨#[117, 112, 103, 114, 97, 100, 101]⟩] 9)) (.slice (some ⟨w.heap.size, 0, none⟩) 7 7) base7 := by
  refine ⟨(Below.refl _ w).alloc (Nat.le_refl _) _, rfl, .inr ⟨w.heap.size, 7, _, rfl, Nat.le_refl _, heap_alloc_new w _, Nat.le_refl _, by decide, rfl, rfl⟩⟩
theorem own_block {w : World} {base : Nat} {e : TypeId} {size : Nat} {v : Value} {n : Nat} {xs : List Value} (h : w.ownsRow base e size v n xs) {g : Nat} (hg : v.ownBlock = some g) : ∃ cur, w.heap[g]? = some (.cells cur e (0, 0)) := by
  rcases h.2 with ⟨h1, _⟩ | ⟨g', cap, cur, h1, _, hh, _⟩
  · rw [h1] at hg; cases hg
  · rw [h1] at hg
    injection hg with hg
    subst hg
    exact ⟨cur, hh⟩
/-- A row of texts stays where a row of fields is put behind. -/
theorem BufS.past {w0 W W' : World} {vt vf : Value} {N : List ByteArray} {L : List Fd} (h : BufS w0 W vt N) (k : BufF w0 W vf L) (hg : W.grownBy W' vf.ownBlock) (hb : Below w0.heap.size w0 W') : BufS w0 W' vt N := by
  refine ⟨hb, h.own.kept hg ?_⟩
  cases hv : vt.ownBlock with
  | none => exact .inl rfl
  | some g =>
    refine .inr fun e => ?_
    obtain ⟨c1, h1⟩ := own_block h.own hv
    obtain ⟨c2, h2⟩ := own_block k.own e.symm
    rw [h1] at h2
    injection h2 with h2
    injection h2 with _ h2
    exact absurd h2 (by decide)
theorem e2eL_hop {l : List Fd} (h : fieldsQ l = true) : e2eL l = elseL l (hopL l) := by unfold e2eL; rw [if_pos h]
theorem hopL_pos {l : List Fd} (h : fieldsQ l = true) : 0 < (hopL l).length := by unfold hopL; rw [if_pos h]; exact hopTo_pos _
theorem hopL_nil {l : List Fd} (h : fieldsQ l = false) : hopL l = [] := by unfold hopL; rw [h]; rfl
end Go.Proofs.YtmhohponikolfaaDoor
namespace Go.Proofs.YtmhohponikolfaaDoor
set_option linter.unusedVariables false
set_option linter.unusedSimpArgs false
open Go.RowKit
theorem low8_twice (b : UInt8) : low8 (low8 b) = low8 b := by
  apply UInt8.toNat_inj.1
  have h1 := low8_toNat (low8 b)
  have h2 := low8_toNat b
  have h3 : lowI (lowI (b.toNat : Int)) = lowI (b.toNat : Int) := by
    unfold lowI
    by_cases h : 65 ≤ (b.toNat : Int) ∧ (b.toNat : Int) ≤ 90
    · rw [if_pos h, if_neg (by omega)]
    · rw [if_neg h, if_neg h]
  rw [h2, h3, ← h2] at h1
  omega
theorem foldB_twice (s : ByteArray) : foldB (foldB s) = foldB s := by
  apply bytes_ext
  show ((s.data.toList.map low8).map low8) = s.data.toList.map low8
  rw [List.map_map]
  exact List.map_congr_left fun b _ => low8_twice b
theorem hopTo_base (W : List ByteArray) : ∀ t ∈ base7, t ∈ hopTo W := by
  unfold hopTo
  have : ∀ (W M : List ByteArray), (∀ t ∈ base7, t ∈ M) → ∀ t ∈ base7, t ∈ W.foldl hopStep M := by
    intro W
    induction W with
    | nil => intro M h; exact h
    | cons s W ih =>
      intro M h
      refine ih _ (fun t ht => ?_)
      unfold hopStep
      split
      · exact (mem_putM _ _ _).2 (.inr (h t ht))
      · exact h t ht
  exact this W base7 (fun t ht => ht)
theorem base7_fold : ∀ t ∈ base7, foldB t = t := by unfold base7 cnB; decide
theorem hopTo_fold (W : List ByteArray) : ∀ t ∈ hopTo W, foldB t = t := by
  unfold hopTo
  have : ∀ (W M : List ByteArray), (∀ t ∈ M, foldB t = t) → ∀ t ∈ W.foldl hopStep M, foldB t = t := by
    intro W
    induction W with
    | nil => intro M h; exact h
    | cons s W ih =>
      intro M h
      refine ih _ (fun t ht => ?_)
      unfold hopStep at ht
      split at ht
      · rcases (mem_putM _ _ _).1 ht with rfl | ht
        · exact foldB_twice s
        · exact h t ht
      · exact h t ht
  exact this W base7 base7_fold
theorem hopL_fold (l : List Fd) : ∀ t ∈ hopL l, foldB t = t := by
  unfold hopL
  split
  · exact hopTo_fold _
  · intro t ht; simp at ht
theorem hopTo_none : hopTo (elsB (joinB [])) = base7 := by kernel_rfl
theorem elseL_all {l : List Fd} {N : List ByteArray} (h : ∀ x ∈ l, inNl N (foldB x.1) = false) : elseL l N = l := by
  unfold elseL
  rw [List.filter_eq_self]
  intro x hx; rw [h x hx]; rfl
/-- What goes from end to end goes so again. -/
theorem e2eL_twice (l : List Fd) : e2eL (e2eL l) = e2eL l := by
  cases hq : fieldsQ l
  · have h0 : e2eL l = [] := by unfold e2eL; rw [hq]; rfl
    rw [h0]
    unfold e2eL
    split
    · rfl
    · rfl
  · have hX := e2eL_hop hq
    rw [hX]
    have hN : hopL l = hopTo (hopW l) := by unfold hopL; rw [if_pos hq]
    have hnot : ∀ x ∈ elseL l (hopL l), inNl (hopL l) (foldB x.1) = false := by
      intro x hx
      have := (List.mem_filter.1 hx).2
      simpa using this
    have hqX : fieldsQ (elseL l (hopL l)) = true := by
      obtain ⟨h1, h2⟩ := fieldsQ_iff.1 hq
      exact fieldsQ_iff.2 ⟨Nat.le_trans (elseL_len _ _) h1, fun x hx => h2 x (List.mem_filter.1 hx).1⟩
    have hb : ∀ x ∈ elseL l (hopL l), foldB x.1 ∉ base7 := by
      intro x hx hm
      have := hopTo_base (hopW l) _ hm
      rw [← hN] at this
      have h2 := hnot x hx
      rw [inNl_iff.2 this] at h2; cases h2
    generalize elseL l (hopL l) = X at *
    have hv : valuesL X cnB = [] := by
      unfold valuesL valsOf
      rw [if_pos hqX, List.map_eq_nil_iff, List.filter_eq_nil_iff]
      intro x hx hn
      have hn := eqB_iff.1 hn
      refine hb x hx ?_
      rw [hn, base7_fold cnB (by unfold base7; simp)]
      unfold base7; simp
    have hh : hopL X = base7 := by
      unfold hopL hopW
      rw [if_pos hqX, hv, hopTo_none]
    rw [e2eL_hop hqX, hh]
    refine elseL_all fun x hx => ?_
    cases hi : inNl base7 (foldB x.1) with
    | false => rfl
    | true => exact absurd (inNl_iff.1 hi) (hb x hx)
theorem elseL_at (l : List Fd) (N : List ByteArray) (i : Nat) (hi : i < l.length) (h : inNl N (foldB (fdAt l i).1) = false) : (elseL (l.take i) N).length < (elseL l N).length ∧ fdAt (elseL l N) (elseL (l.take i) N).length = fdAt l i := by
  have e : elseL l N = elseL (l.take i) N ++ fdAt l i :: elseL (l.drop (i + 1)) N := by
    have h1 : l = l.take i ++ fdAt l i :: l.drop (i + 1) := by
      rw [fdAt_get hi]
      simp
    conv => lhs; rw [h1]
    unfold elseL
    rw [List.filter_append, List.filter_cons_of_pos (by rw [h]; rfl)]
  refine ⟨by rw [e]; simp, ?_⟩
  rw [e]
  unfold fdAt
  simp
theorem inNl_next (N : List ByteArray) (s : ByteArray) (k : Nat) (h : k < N.length) : inNl (N.take (k + 1)) s = (inNl (N.take k) s || eqB s (txAt N k)) := by
  unfold inNl
  rw [List.take_succ_eq_append_getElem h, List.any_append, txAt_get h]
  unfold eqB
  rw [ByteArray.toList_eq, ByteArray.toList_eq]; simp
theorem fields_eq (d s : ByteArray) : (d.toList == d.toList) = true ∧ (s.toList == s.toList) = true := by simp
set_option maxHeartbeats 1000000 in
theorem sameFields_same (va vb : Value) (l : List Fd) (w : World) (ha : SlF w va l) (hb : SlF w vb l) (hm : l.length ≤ 1048576) :
    Calls Tryd.prog 11 #[va, vb] w fun e w' => e = .returned (.bool true) ∧ Below w.heap.size w w' := by
  obtain ⟨a1, c1, rfl⟩ := ha.form
  obtain ⟨a2, c2, rfl⟩ := hb.form
  have HA := hideB2 ha
  have HB := hideB2 hb
  clear ha hb
  generalize hn : l.length = n at *
  have HN := hideB2 hn
  clear hn
  have heq : ((n : Int) == (n : Int)) = true := by simp
  go_enter Tryd.func11, Tryd.ntmps11
  go_wp2
  go_loopw [5] (fun i wr => ∃ k : Nat, k ≤ n ∧ i = .int .i64 (k : Int) ∧ Below w.heap.size w wr) (fun i _ => n - (intOf i).toNat)
  case atStart => exact ⟨0, Nat.zero_le _, rfl, Below.refl _ _⟩
  case round =>
    obtain ⟨k, hk, rfl, hbw⟩ := hrel
    by_cases hlt : k < n
    · have hI : (k : Int) < (n : Int) := by omega
      obtain ⟨b1, rfl, hr1⟩ := HA.out.row (by rw [HN.out]; omega)
      obtain ⟨b2, rfl, hr2⟩ := HB.out.row (by rw [HN.out]; omega)
      have p0 := (hr1.keep hbw).dat k (by rw [HN.out]; exact hlt)
      have p1 := (hr1.keep hbw).saf k (by rw [HN.out]; exact hlt)
      have q0 := (hr2.keep hbw).dat k (by rw [HN.out]; exact hlt)
      have q1 := (hr2.keep hbw).saf k (by rw [HN.out]; exact hlt)
      clear hr1 hr2
      generalize fdAt l k = x at *
      obtain ⟨d, s⟩ := x
      simp only at p0 p1 q0 q1
      obtain ⟨hdd, hss⟩ := fields_eq d s
      have HBW := hideB2 hbw
      clear hbw
      go_wp2
      go_quiet (fail)
      go_wp2
      go_round
      case rel => exact ⟨k + 1, by omega, by go_num, Below.drewNs HBW.out _⟩
      case measure => simp [intOf]; omega
    · have hd : decide ((k : Int) < (n : Int)) = false := by simp; omega
      go_wp2
      go_ret
      exact ⟨rfl, hbw⟩
end Go.Proofs.YtmhohponikolfaaDoor
namespace Go.Proofs.YtmhohponikolfaaDoor
set_option linter.unusedVariables false
set_option linter.unusedSimpArgs false
open Go.RowKit
theorem nameIs_self (f : Fd) : nameIs f.1 f = true := by unfold nameIs; exact eqB_self _
theorem withL_cases (l : List Fd) (f : Fd) : withL l f = [] ∨ (withL l f = (l.filter fun x => !nameIs f.1 x) ++ [f] ∧ fieldsQ l = true ∧ fieldsQ (withL l f) = true ∧ (withL l f).length ≤ 20 ∧ valuesL (withL l f) f.1 = [f.2] ∧ withoutL (withL l f) f.1 = withoutL l f.1) := by
  by_cases h : fieldsQ l = true ∧ fieldQ f = true ∧ (l.filter (fun x => !nameIs f.1 x)).length < 20
  · have e : withL l f = (l.filter fun x => !nameIs f.1 x) ++ [f] := by unfold withL; rw [if_pos h]
    right
    have hlen : (withL l f).length ≤ 20 := by rw [e]; simp; omega
    have hq : fieldsQ (withL l f) = true := by
      refine fieldsQ_iff.2 ⟨hlen, fun x hx => ?_⟩
      rw [e] at hx
      rcases List.mem_append.1 hx with hx | hx
      · exact (fieldsQ_iff.1 h.1).2 x (List.mem_filter.1 hx).1
      · simp at hx; subst hx; exact h.2.1
    refine ⟨e, h.1, hq, hlen, ?_, ?_⟩
    · unfold valuesL valsOf
      rw [if_pos hq, e, List.filter_append, List.filter_filter]
      have h1 : (l.filter fun a => nameIs f.1 a && !nameIs f.1 a) = [] := by
        rw [List.filter_eq_nil_iff]; intro x _; simp
      rw [h1, List.filter_cons_of_pos (nameIs_self f)]; rfl
    · unfold withoutL
      rw [if_pos hq, if_pos h.1, e, List.filter_append, List.filter_filter]
      rw [List.filter_cons_of_neg (by rw [nameIs_self f]; simp)]
      simp
  · left; unfold withL; rw [if_neg h]
theorem withL_short {l : List Fd} {f : Fd} (h : Short l) (hf : f.1.size ≤ 100 ∧ f.2.size ≤ 100) : Short (withL l f) := by
  intro x hx
  unfold withL at hx
  split at hx
  · rcases List.mem_append.1 hx with hx | hx
    · exact h x (List.mem_filter.1 hx).1
    · simp at hx; subst hx; exact hf
  · simp at hx
theorem withoutL_le (l : List Fd) (n : ByteArray) : (withoutL l n).length ≤ l.length := by
  unfold withoutL
  split
  · exact List.length_filter_le _ _
  · simp
theorem SlF.other {w : World} {v : Value} {l : List Fd} {g : Nat} (h : SlF w v l) (hne : ∀ q, v.ownBlock = some q → g ≠ q) (k : Nat) (x : Value) : SlF (w.setCell ⟨g, k, none⟩ x) v l := by
  rcases h with h | ⟨b, cap, e, hr⟩
  · exact .inl h
  · exact .inr ⟨b, cap, e, hr.other (hne b (by rw [e]; rfl)) k x⟩
theorem results_tmpC {fn : Func} {p u : Tmp} {ty : TypeId} (h : fn.results = #[.tmp u, .cell p ty]) (tmps : Array Value) (P : Program) (w : World) {b : Nat} {c : Array Value} {t : TypeId} {fs : Array Field} (hp : tmps.getD p undef = .pointer (some ⟨b, 0, none⟩)) (hB : Blk w b c t)
    (hu : P.underlying ty = some (.struct fs)) (hi : (P.info? ty).map (·.size) = some c.size) : (results fn tmps).run P w = .ok (.tuple #[tmps.getD u undef, .agg c]) w := by
  have hrun := run_loadVar_row (P := P) w b t ty c (0, 0) _ hB hu rfl hi
  have ha : (asAddr (tmps.getD p undef)).run P w = .ok ⟨b, 0, none⟩ w := by rw [hp]; rfl
  have he : (results fn tmps).run P w = ((asAddr (tmps.getD p undef)).run P w).andThen fun a w₁ => ((loadVar ty a).run P w₁).andThen fun x w₂ => .ok (.tuple #[tmps.getD u undef, x]) w₂ := by
    simp only [results, h]
    simp [Sem.run_bind, Result.andThen]
  rw [he, ha]
  show ((loadVar ty ⟨b, 0, none⟩).run P w).andThen _ = _
  rw [hrun]
  rfl
set_option maxRecDepth 100000 in
set_option maxHeartbeats 4000000 in
theorem DrawWith_any (a : Option Addr) (len cap : Nat) (w : World) (hc : Code w a len) :
    Calls Tryd.prog 4 #[.slice a len cap] w fun e w' => (∃ v l, ∃ d s : ByteArray, e = .returned (.tuple #[v, .agg #[.string d, .string s]]) ∧ l.length ≤ 21 ∧ Short l ∧ d.size ≤ 100 ∧ s.size ≤ 100 ∧ SlF w' v l) ∧ Below w.heap.size w w' := by
  have R0 := Blk.new w #[.string ⟨#[]⟩, .string ⟨#[]⟩] 25
  have ba := below_a1 w (.cells #[.string ⟨#[]⟩, .string ⟨#[]⟩] 25)
  have hc1 := hc.later ba
  have hsz : (w.alloc (.cells #[.string ⟨#[]⟩, .string ⟨#[]⟩] 25)).heap.size = w.heap.size + 1 := by simp
  clear hc
  go_enter Tryd.func4, Tryd.ntmps4
  go_wp2_with fail
  generalize w.alloc (.cells #[.string ⟨#[]⟩, .string ⟨#[]⟩] 25) = W at *
  have HSZ := hideB2 hsz
  clear hsz
  refine (l1New_any a len cap _ hc1.row hc1.max).mono ?_
  rintro e w1 ⟨rfl, hb1, hd1⟩
  generalize hp : W.heap.size = p at *
  have HP := hideB2 hp
  clear hp
  go_wp2_with fail
  refine (l5bent_any p _ hd1).mono ?_
  rintro e w2 ⟨v, l, rfl, hl, hsh, hbuf⟩
  have HL := hideB2 hl
  have HSH := hideB2 hsh
  have hs1 := hd1.lt
  have hvb : ∀ q, v.ownBlock = some q → p < q ∧ q < w2.heap.size := fun q hq => by have := hbuf.own.lt q hq; omega
  have hd2 := hbuf.st
  have hk2 := hbuf.kp
  have S2 : SlF w2 v l := by
    have hB : BufF W w2 v l := by
      refine ⟨by rw [HP.out]; exact hb1.trans (hbuf.kp.below (Nat.le_refl _) (Nat.le_of_lt hd1.lt)), hbuf.own.1, ?_⟩
      rcases hbuf.own.2 with h2 | ⟨g, cap, cur, h1, hg, r⟩
      · exact .inl h2
      · exact .inr ⟨g, cap, cur, h1, by have := hb1.size; rw [HP.out]; omega, r⟩
    exact hB.ans.1
  obtain ⟨av, cv, rfl⟩ := hbuf.form
  clear hbuf hsh hl
  go_wp2_with fail
  refine (l5field_any p _ hd2).mono ?_
  rintro e w3 ⟨⟨d, s, hds, hss, rfl⟩, hk3, hd3⟩
  have hs2 := hk2.size
  have hs3 := hk3.size
  have ba3 := below_a1 w3 (.cells #[.string d, .string s] 25)
  have V4 : DF p w.heap.size w3.heap.size w (w3.alloc (.cells #[.string d, .string s] 25)) d s := by
    have hsz := HSZ.out
    have hp := HP.out
    have hbw := ba.trans (hb1.mono (by omega))
    have hk := hk2.trans hk3
    have hbw2 := hbw.trans (hk.below (B := w.heap.size) (by omega) (by omega))
    exact ⟨Blk.new w3 _ _, (blk_kp (R0.later (by rw [hp]; exact hb1)) hk (by omega)).later ba3, hd3.kept ba3, hbw2.trans (ba3.mono hbw2.size), Nat.le_refl _, by omega, by omega, by omega, by omega⟩
  have S4 := (S2.gb hk3 (fun q hq e => by injection e with e; have := (hvb q hq).1; omega)).later ba3
  have hvb4 : ∀ q, (Value.slice av l.length cv).ownBlock = some q → p < q ∧ q < w3.heap.size := fun q hq => by have := hvb q hq; omega
  clear R0 hk2 hk3 hd1 hd2 hd3 hb1 ba hc1 ba3 S2 hvb
  go_wp2_with fail
  generalize w3.alloc (.cells #[.string d, .string s] 25) = W4 at *
  generalize w3.heap.size = g at *
  have hvr : ∀ q, (Value.slice av l.length cv).ownBlock = some q → w.heap.size ≠ q := fun q hq => by have := hvb4 q hq; have := V4.rge; have := V4.pge; have h3 := V4.ne1; omega
  have hvg : ∀ q, (Value.slice av l.length cv).ownBlock = some q → g ≠ q := fun q hq => by have := hvb4 q hq; omega
  have hvp : ∀ q, (Value.slice av l.length cv).ownBlock = some q → (some p : Option Nat) ≠ some q := fun q hq e => by injection e with e; have := hvb4 q hq; omega
  have HVR := hideB2 hvr
  have HVG := hideB2 hvg
  have HVP := hideB2 hvp
  clear hvr hvg hvp hvb4 hs1 hs2 hs3 HSZ HP
  refine (l1Once_any p 8 _ V4.st (by omega)).mono ?_
  rintro e w5 ⟨⟨b, rfl⟩, hk5, hd5⟩
  have V5 := V4.draw hk5 hd5
  have S5 := S4.gb hk5 HVP.out
  clear V4 S4 hk5 hd5
  cases b
  · obtain ⟨q0, q1⟩ := V5.blk.c2
    obtain ⟨r0, r1⟩ := V5.res.c2
    have z0 := V5.res.free 0
    have z1 := V5.res.free 1
    have n3 := V5.ne3
    have HV := hideB2 V5
    have HS := hideB2 S5
    clear V5 S5
    go_wp2
    go_region
    all_goals
      go_wp2
      have HBK : Hid (Blk ((w5.setCell ⟨w.heap.size, 0, none⟩ (.string d)).setCell ⟨w.heap.size, 1, none⟩ (.string s)).drew w.heap.size #[.string d, .string s] 25) := HV.out.res.set2 _ _
      refine bodyPost_ret (results_tmpC rfl _ _ _ rfl HBK.out Tryd.underlying25 Tryd.infoFd) rfl ⟨⟨_, l, _, _, rfl, HL.out, HSH.out, by omega, by omega, ((HS.out.other HVR.out 0 _).other HVR.out 1 _).later (Below.refl _ _).drew⟩, (below_set2 HV.out.bel (Nat.le_refl _) _ _).drew⟩
  · obtain ⟨q0, q1⟩ := V5.blk.c2
    go_wp2_with fail
    refine (l1bend_any p s _ V5.st (by omega)).mono ?_
    rintro e w6 ⟨⟨t, ht, rfl⟩, hk6, hd6⟩
    have V6 := V5.draw hk6 hd6
    have S6 := S5.gb hk6 HVP.out
    clear q0 q1
    obtain ⟨q0, q1⟩ := V6.blk.c2
    have f0 := V6.blk.free 1
    have HV7 := hideB2 (V6.set1 t)
    have HS7 := hideB2 (S6.other HVG.out 1 (.string t))
    clear V5 V6 S5 S6 hk6 hd6
    go_wp2
    have V7 := HV7.out
    have S7 := HS7.out
    generalize World.setCell _ _ _ = W7 at *
    clear q0 q1 f0
    obtain ⟨q0, q1⟩ := V7.blk.c2
    obtain ⟨r0, r1⟩ := V7.res.c2
    have z0 := V7.res.free 0
    have z1 := V7.res.free 1
    have n3 := V7.ne3
    have HV := hideB2 V7
    have HS := hideB2 S7
    clear V7 S7 HV7 HS7
    go_region
    all_goals
      go_wp2
      have HBK : Hid (Blk ((W7.setCell ⟨w.heap.size, 0, none⟩ (.string d)).setCell ⟨w.heap.size, 1, none⟩ (.string t)).drew w.heap.size #[.string d, .string t] 25) := HV.out.res.set2 _ _
      refine bodyPost_ret (results_tmpC rfl _ _ _ rfl HBK.out Tryd.underlying25 Tryd.infoFd) rfl ⟨⟨_, l, _, _, rfl, HL.out, HSH.out, by omega, by omega, ((HS.out.other HVR.out 0 _).other HVR.out 1 _).later (Below.refl _ _).drew⟩, (below_set2 HV.out.bel (Nat.le_refl _) _ _).drew⟩
end Go.Proofs.YtmhohponikolfaaDoor
namespace Go.Proofs.YtmhohponikolfaaDoor
set_option linter.unusedVariables false
set_option linter.unusedSimpArgs false
open Go.RowKit

/-- What stands between two quotes, read from the left. -/
def unq : List UInt8 → Option (List UInt8)
  | [] => some []
  | [b] => if b = 92 ∨ b = 34 ∨ plain8 b = false then none else some [b]
  | b :: c :: r => if b = 92 then (if plain8 c = true then (unq r).map (fun x => c :: x) else none) else if b = 34 ∨ plain8 b = false then none else (unq (c :: r)).map (fun x => b :: x)

theorem unq_esc (c : UInt8) (r : List UInt8) (h : plain8 c = true) : unq (92 :: c :: r) = (unq r).map (fun x => c :: x) := by
  rw [unq]; simp [h]
theorem unq_esc_no (c : UInt8) (r : List UInt8) (h : plain8 c = false) : unq (92 :: c :: r) = none := by
  rw [unq]; simp [h]
theorem unq_esc_end : unq [92] = none := by rw [unq]; simp
theorem unq_plain (b : UInt8) (r : List UInt8) (h1 : b ≠ 92) (h2 : b ≠ 34) (h3 : plain8 b = true) : unq (b :: r) = (unq r).map (fun x => b :: x) := by
  cases r with
  | nil => simp [unq, h1, h2, h3]
  | cons c r => rw [unq, if_neg h1, if_neg (by simp [h2, h3])]
theorem unq_bad (b : UInt8) (r : List UInt8) (h1 : b ≠ 92) (h2 : b = 34 ∨ plain8 b = false) : unq (b :: r) = none := by
  cases r with
  | nil => rw [unq, if_pos (Or.inr h2)]
  | cons c r => rw [unq, if_neg h1, if_pos h2]

/-- Behind p bytes of L, o has come out. -/
def URel (L : List UInt8) (p : Nat) (o : List UInt8) : Prop := unq L = (unq (L.drop p)).map (fun x => o ++ x)
theorem urel_start (L : List UInt8) : URel L 0 [] := by
  unfold URel
  cases h : unq L with
  | none => simp [h]
  | some x => simp [h]
theorem drop_at (L : List UInt8) (p : Nat) (h : p < L.length) : L.drop p = L.getD p 0 :: L.drop (p + 1) := by
  rw [List.drop_eq_getElem_cons h]
  simp [List.getD, List.getElem?_eq_getElem h]
theorem urel_plain {L : List UInt8} {p : Nat} {o : List UInt8} (h : URel L p o) (hp : p < L.length) (h1 : L.getD p 0 ≠ 92) (h2 : L.getD p 0 ≠ 34) (h3 : plain8 (L.getD p 0) = true) : URel L (p + 1) (o ++ [L.getD p 0]) := by
  unfold URel at *
  rw [h, drop_at L p hp, unq_plain _ _ h1 h2 h3]
  cases unq (L.drop (p + 1)) <;> simp
theorem urel_esc {L : List UInt8} {p : Nat} {o : List UInt8} (h : URel L p o) (hp : p + 1 < L.length) (h1 : L.getD p 0 = 92) (h3 : plain8 (L.getD (p + 1) 0) = true) : URel L (p + 2) (o ++ [L.getD (p + 1) 0]) := by
  unfold URel at *
  rw [h, drop_at L p (by omega), drop_at L (p + 1) hp, h1, unq_esc _ _ h3]
  cases unq (L.drop (p + 1 + 1)) <;> simp
theorem urel_bad {L : List UInt8} {p : Nat} {o : List UInt8} (h : URel L p o) (hp : p < L.length) (h1 : L.getD p 0 ≠ 92) (h2 : L.getD p 0 = 34 ∨ plain8 (L.getD p 0) = false) : unq L = none := by
  unfold URel at h
  rw [h, drop_at L p hp, unq_bad _ _ h1 h2]; rfl
theorem urel_esc_bad {L : List UInt8} {p : Nat} {o : List UInt8} (h : URel L p o) (hp : p + 1 < L.length) (h1 : L.getD p 0 = 92) (h3 : plain8 (L.getD (p + 1) 0) = false) : unq L = none := by
  unfold URel at h
  rw [h, drop_at L p (by omega), drop_at L (p + 1) hp, h1, unq_esc_no _ _ h3]; rfl
theorem urel_esc_end {L : List UInt8} {p : Nat} {o : List UInt8} (h : URel L p o) (hp : p + 1 = L.length) (h1 : L.getD p 0 = 92) : unq L = none := by
  unfold URel at h
  rw [h, drop_at L p (by omega), h1, List.drop_eq_nil_of_le (by omega), unq_esc_end]; rfl
theorem urel_end {L : List UInt8} {p : Nat} {o : List UInt8} (h : URel L p o) (hp : p = L.length) : unq L = some o := by
  unfold URel at h
  rw [h, List.drop_eq_nil_of_le (by omega)]
  simp [unq]
theorem unq_ne_nil (b : UInt8) (r o : List UInt8) (h : unq (b :: r) = some o) : 1 ≤ o.length := by
  cases r with
  | nil =>
    rw [unq] at h
    split at h
    · cases h
    · injection h with h; subst h; simp
  | cons c r =>
    rw [unq] at h
    split at h
    · split at h
      · cases hu : unq r with
        | none => rw [hu] at h; cases h
        | some x => rw [hu] at h; injection h with h; subst h; simp
      · cases h
    · split at h
      · cases h
      · cases hu : unq (c :: r) with
        | none => rw [hu] at h; cases h
        | some x => rw [hu] at h; injection h with h; subst h; simp
theorem urel_long {L : List UInt8} {p : Nat} {o : List UInt8} (h : URel L p o) (hp : p < L.length) (o' : List UInt8) (h' : unq L = some o') : o.length < o'.length := by
  unfold URel at h
  rw [h', drop_at L p hp] at h
  cases hu : unq (L.getD p 0 :: L.drop (p + 1)) with
  | none => rw [hu] at h; cases h
  | some x =>
    rw [hu] at h
    injection h with h
    have := unq_ne_nil _ _ _ hu
    rw [h, List.length_append]
    omega
theorem unq_len : ∀ (n : Nat) (l o : List UInt8), l.length ≤ n → unq l = some o → l.length ≤ 2 * o.length
  | 0, l, o, hn, _ => by omega
  | n + 1, l, o, hn, h => by
    match l, hn, h with
    | [], _, _ => simp
    | [b], _, h => have := unq_ne_nil b [] o h; simp; omega
    | b :: c :: r, hn, h =>
      rw [unq] at h
      simp only [List.length_cons] at hn ⊢
      split at h
      · split at h
        · cases hu : unq r with
          | none => rw [hu] at h; cases h
          | some x =>
            rw [hu] at h; injection h with h; subst h
            have := unq_len n r x (by omega) hu
            simp; omega
        · cases h
      · split at h
        · cases h
        · cases hu : unq (c :: r) with
          | none => rw [hu] at h; cases h
          | some x =>
            rw [hu] at h; injection h with h; subst h
            have := unq_len n (c :: r) x (by simp; omega) hu
            simp at this ⊢; omega

/-- What stands between the first and the last byte. -/
def inner (s : ByteArray) : List UInt8 := (s.data.toList.take (s.size - 1)).drop 1
def unqO (s : ByteArray) : Option (List UInt8) := if 2 ≤ s.size ∧ (at8 s 0).toNat = 34 ∧ (at8 s (s.size - 1)).toNat = 34 then (match unq (inner s) with | some o => if o.length ≤ 4000 then some o else none | none => none) else none
def unqB (s : ByteArray) : ByteArray := ⟨((unqO s).getD []).toArray⟩
def unqOk (s : ByteArray) : Bool := (unqO s).isSome
theorem unq_none {s : ByteArray} (h : unqO s = none) : unqB s = ⟨#[]⟩ ∧ unqOk s = false := by simp [unqB, unqOk, h]
theorem unq_some {s : ByteArray} {o : List UInt8} (h : unqO s = some o) : unqB s = ⟨o.toArray⟩ ∧ unqOk s = true := by simp [unqB, unqOk, h]
theorem unqO_ends {s : ByteArray} (h : ¬ (2 ≤ s.size ∧ (at8 s 0).toNat = 34 ∧ (at8 s (s.size - 1)).toNat = 34)) : unqO s = none := by unfold unqO; rw [if_neg h]
theorem unqO_none {s : ByteArray} (h : unq (inner s) = none) : unqO s = none := by
  unfold unqO; split
  · rw [h]
  · rfl
theorem unqO_long {s : ByteArray} (h : ∀ o, unq (inner s) = some o → 4000 < o.length) : unqO s = none := by
  unfold unqO; split
  · cases hu : unq (inner s) with
    | none => rfl
    | some o => have := h o hu; simp; omega
  · rfl
theorem unqO_some {s : ByteArray} {o : List UInt8} (h0 : 2 ≤ s.size) (h1 : (at8 s 0).toNat = 34) (h2 : (at8 s (s.size - 1)).toNat = 34) (h : unq (inner s) = some o) (hl : o.length ≤ 4000) : unqO s = some o := by
  unfold unqO; rw [if_pos ⟨h0, h1, h2⟩, h]; simp [hl]
theorem inner_length (s : ByteArray) : (inner s).length = s.size - 2 := by
  unfold inner
  rw [List.length_drop, List.length_take, len_data]; omega
theorem inner_at (s : ByteArray) (p : Nat) (h : p + 1 < s.size - 1) : (inner s).getD p 0 = at8 s (p + 1) := by
  unfold inner at8 List.getD
  rw [List.getElem?_drop, List.getElem?_take, if_pos (by omega), Nat.add_comm 1 p]
theorem unqO_big {s : ByteArray} (h : 8002 < s.size) : unqO s = none := by
  apply unqO_long
  intro o ho
  have := unq_len _ (inner s) o (Nat.le_refl _) ho
  rw [inner_length] at this
  omega
end Go.Proofs.YtmhohponikolfaaDoor
namespace Go.Proofs.YtmhohponikolfaaDoor
set_option linter.unusedVariables false
set_option linter.unusedSimpArgs false
open Go.RowKit

theorem quo8_iff (b : UInt8) : quo8 b = true ↔ b = 34 ∨ b = 92 := by
  unfold quo8 quoP
  rw [Bool.or_eq_true, beq_iff_eq, beq_iff_eq]
  constructor
  · rintro (h | h)
    · left; apply UInt8.toNat_inj.1; show b.toNat = 34; omega
    · right; apply UInt8.toNat_inj.1; show b.toNat = 92; omega
  · rintro (rfl | rfl) <;> simp
theorem escL_cons (b : UInt8) (l : List UInt8) : escL (b :: l) = esc8 b ++ escL l := by simp [escL]
theorem unq_escL : ∀ (l : List UInt8), (∀ x ∈ l, plain8 x = true) → unq (escL l) = some l
  | [], _ => rfl
  | b :: l, h => by
    have ih := unq_escL l fun x hx => h x (List.mem_cons_of_mem _ hx)
    have hb := h b List.mem_cons_self
    rw [escL_cons]
    unfold esc8
    by_cases hq : quo8 b = true
    · rw [if_pos hq, List.cons_append, List.cons_append, List.nil_append, unq_esc _ _ hb, ih]; rfl
    · have hn : ¬ (b = 34 ∨ b = 92) := fun hh => hq ((quo8_iff b).2 hh)
      rw [if_neg hq, List.cons_append, List.nil_append, unq_plain b _ (fun e => hn (Or.inr e)) (fun e => hn (Or.inl e)) hb, ih]; rfl
theorem quoL_len (l : List UInt8) : (quoL l).length = (escL l).length + 2 := by simp [quoL]
theorem quoB_size {s : ByteArray} (h : quoOk s = true) : (quoB s).size = (escL s.data.toList).length + 2 := by
  unfold quoB; rw [if_pos h]
  show (quoL s.data.toList).toArray.size = _
  simp [quoL_len]
theorem quoB_size_le (s : ByteArray) : (quoB s).size ≤ 2 * s.size + 2 := by
  cases h : quoOk s
  · unfold quoB; rw [if_neg (by rw [h]; decide)]; exact Nat.zero_le _
  · rw [quoB_size h]
    have := escL_len s.data.toList
    rw [len_data] at this
    omega
theorem quo_none {s : ByteArray} (h : quoOk s = false) : quoB s = ⟨#[]⟩ := by unfold quoB; rw [if_neg (by rw [h]; decide)]
theorem unqO_quoB {s : ByteArray} (h : quoOk s = true) : unqO (quoB s) = some s.data.toList := by
  have hs := quoB_size h
  have hd : (quoB s).data.toList = quoL s.data.toList := by unfold quoB; rw [if_pos h]
  have hp : s.size ≤ 4000 ∧ ∀ x ∈ s.data.toList, plain8 x = true := by
    unfold quoOk at h
    rw [Bool.and_eq_true, decide_eq_true_iff, List.all_eq_true] at h
    exact h
  refine unqO_some (by omega) ?_ ?_ ?_ (by rw [len_data]; exact hp.1)
  · unfold at8; rw [hd]; rfl
  · unfold at8
    rw [hd, hs]
    have e : (escL s.data.toList).length + 2 - 1 = (34 :: escL s.data.toList).length := by simp
    rw [e]
    unfold quoL
    rw [List.getD, List.getElem?_append_right (Nat.le_refl _), Nat.sub_self]; rfl
  · unfold inner
    rw [hd, hs]
    have e : (escL s.data.toList).length + 2 - 1 = (34 :: escL s.data.toList).length := by simp
    rw [e]
    unfold quoL
    rw [List.take_left]
    exact unq_escL _ hp.2
theorem unq_quo {s : ByteArray} (h : quoOk s = true) : unqB (quoB s) = s ∧ unqOk (quoB s) = true := by
  have := unq_some (unqO_quoB h)
  refine ⟨?_, this.2⟩
  rw [this.1]
theorem elG_esc : ∀ (l cur rest : List UInt8), elG 1 cur (escL l ++ rest) = elG 1 (cur ++ escL l) rest
  | [], cur, rest => by simp [escL]
  | b :: l, cur, rest => by
    have ih := elG_esc l
    rw [escL_cons]
    unfold esc8
    by_cases hq : quo8 b = true
    · rw [if_pos hq]
      have e1 : ([92, b] ++ escL l) ++ rest = 92 :: b :: (escL l ++ rest) := by simp
      rw [e1, elG, if_neg (by decide), if_pos rfl, elG, ih]
      · simp
      · intro hh; cases hh
      · intro hh; cases hh
    · have hn : ¬ (b = 34 ∨ b = 92) := fun hh => hq ((quo8_iff b).2 hh)
      rw [if_neg hq]
      have e1 : ([b] ++ escL l) ++ rest = b :: (escL l ++ rest) := by simp
      rw [e1, elG, if_neg (fun e => hn (Or.inl e)), if_neg (fun e => hn (Or.inr e)), ih]
      simp
theorem elG_quo (l : List UInt8) : elG 0 [] ([120, 44, 32] ++ quoL l ++ [32, 44, 121]) = [[120], [32] ++ quoL l ++ [32], [121]] := by
  have e : [120, 44, 32] ++ quoL l ++ [32, 44, 121] = 120 :: 44 :: 32 :: 34 :: (escL l ++ [34, 32, 44, 121]) := by simp [quoL]
  have f : elG 0 [] (120 :: 44 :: 32 :: 34 :: (escL l ++ [34, 32, 44, 121])) = [120] :: elG 1 [32, 34] (escL l ++ [34, 32, 44, 121]) := rfl
  have g : ∀ cur : List UInt8, elG 1 cur [34, 32, 44, 121] = [((cur ++ [34]) ++ [32]), [121]] := fun _ => rfl
  rw [e, f, elG_esc, g]
  simp [quoL]
theorem keep_quo (l : List UInt8) : keepP ([32] ++ quoL l ++ [32]) = [⟨(quoL l).toArray⟩] := by
  have ht : trimL ([32] ++ quoL l ++ [32]) = quoL l := by
    refine trimL_of [32] (quoL l) [32] (by intro x hx; simp at hx; subst hx; decide) (by intro x hx; simp at hx; subst hx; decide) (Or.inr ⟨34, 34, escL l ++ [34], 34 :: escL l, by simp [quoL], by simp [quoL], by decide, by decide⟩)
  unfold keepP
  rw [ht, if_neg (by simp [quoL])]
/-- What the law asks of Elements. -/
theorem els_quo {s : ByteArray} (h : quoOk s = true) (hs : s.size ≤ 1000) :
    elsB ((⟨#[120, 44, 32]⟩ ++ quoB s) ++ ⟨#[32, 44, 121]⟩) = [⟨#[120]⟩, quoB s, ⟨#[121]⟩] := by
  have hd : (quoB s).data.toList = quoL s.data.toList := by unfold quoB; rw [if_pos h]
  have hq : quoB s = ⟨(quoL s.data.toList).toArray⟩ := by unfold quoB; rw [if_pos h]
  have hz := quoB_size_le s
  rw [els_small (by
    rw [ByteArray.size_append, ByteArray.size_append]
    have e1 : (ByteArray.mk #[120, 44, 32]).size = 3 := rfl
    have e2 : (ByteArray.mk #[32, 44, 121]).size = 3 := rfl
    omega), Go.Joins.data_append, Go.Joins.data_append, hd]
  have e := elG_quo s.data.toList
  show cleanP (elG 0 [] ([120, 44, 32] ++ quoL s.data.toList ++ [32, 44, 121])) = _
  rw [e, hq]
  have k1 : keepP [120] = [⟨#[120]⟩] := by decide
  have k2 : keepP [121] = [⟨#[121]⟩] := by decide
  show keepP [120] ++ (keepP ([32] ++ quoL s.data.toList ++ [32]) ++ (keepP [121] ++ [])) = _
  rw [k1, k2, keep_quo]; rfl
end Go.Proofs.YtmhohponikolfaaDoor
namespace Go.Proofs.YtmhohponikolfaaDoor
set_option linter.unusedVariables false
set_option linter.unusedSimpArgs false
open Go.RowKit

set_option maxHeartbeats 1000000 in
theorem sameTexts_same (w : World) (l : List ByteArray) (a b : Option Addr) (c d : Nat) (ha : RowS w a l) (hb : RowS w b l) (hl : l.length ≤ 1000000) :
    Calls Tryd.prog 10 #[.slice a l.length c, .slice b l.length d] w fun e w' => e = .returned (.bool true) ∧ Below w.heap.size w w' := by
  have heq : ((l.length : Int) == (l.length : Int)) = true := by simp
  go_enter Tryd.func10, Tryd.ntmps10
  go_wp2
  go_loopw [5] (fun i wr => ∃ k : Nat, k ≤ l.length ∧ i = .int .i64 (k : Int) ∧ Below w.heap.size w wr) (fun i _ => l.length - (intOf i).toNat)
  case atStart => exact ⟨0, Nat.zero_le _, rfl, Below.refl _ _⟩
  case round =>
    obtain ⟨k, hk, rfl, hbw⟩ := hrel
    by_cases hlt : k < l.length
    · have hI : (k : Int) < (l.length : Int) := by omega
      obtain ⟨g, rfl, hcg⟩ := (ha.later hbw).at (by omega)
      obtain ⟨g', rfl, hcg'⟩ := (hb.later hbw).at (by omega)
      have c1 := hcg k hlt
      have c2 := hcg' k hlt
      generalize l.getD k ⟨#[]⟩ = t at *
      have hnt := neT_self t
      clear hcg hcg' ha hb
      go_wp2
      go_quiet (fail)
      go_wp2
      go_round
      case rel => exact ⟨k + 1, by omega, by go_num, Below.drewNs hbw _⟩
      case measure => simp [intOf]; omega
    · have hd : decide ((k : Int) < (l.length : Int)) = false := by simp; omega
      go_wp2
      go_ret
      exact ⟨rfl, hbw⟩
end Go.Proofs.YtmhohponikolfaaDoor
namespace Go.Proofs.YtmhohponikolfaaDoor
set_option linter.unusedVariables false
set_option linter.unusedSimpArgs false
open Go.ChangeShapes Go.WideShapes Go.ChangeAt Go.RowKit
open Go.ChangeMaps (open_string shut_string)
theorem Tryd.own : ownKnob Tryd.prog.godebug = none := by kernel_rfl
theorem Tryd.laidOut : laidOutB Tryd.prog = true := by kernel_rfl
/-- What the walk is told of a slice of integers that came in: it is nil; or it leads to a row of 'cap' cells, the numbers 'zs' (the first 'len' are its elements, the rest its spare room), each fitting its kind. -/
def IsRow (k : IntKind) (w : World) (a : Option Addr) (len cap : Nat) (zs : List Int) : Prop :=
  (a = none ∧ len = 0 ∧ cap = 0 ∧ zs = []) ∨
  ∃ x, a = some x ∧ len ≤ cap ∧ cap ≤ maxLen ∧ zs.length = cap ∧ (∀ i, i < zs.length → w.cell? (x.add i) = some (.int k (zs.getD i 0))) ∧ ∀ n ∈ zs, (Lit.int k n).wf = true

end Go.Proofs.YtmhohponikolfaaDoor
namespace Go.Proofs.YtmhohponikolfaaDoor
set_option linter.unusedVariables false
set_option linter.unusedSimpArgs false
open Go.ChangeShapes Go.WideShapes Go.ChangeAt Go.RowKit
theorem code_of {w : World} {a : Option Addr} {len cap : Nat} {zs : List Int} (h : IsRow .u8 w a len cap zs) : Code w a len := by
  rcases h with ⟨rfl, rfl, rfl, rfl⟩ | ⟨x, rfl, hl, hm, hz, hcell, hwf⟩
  · exact ⟨Or.inl rfl, by unfold maxLen; omega⟩
  · refine ⟨?_, Nat.le_trans hl hm⟩
    by_cases h0 : len = 0
    · exact Or.inl h0
    · right
      obtain ⟨b, off, spot⟩ := x
      have hc := hcell 0 (by omega)
      have hspot : spot = none := by simpa [Addr.add] using World.cell?_spot hc
      subst hspot
      refine ⟨b, off, rfl, ?_, fun i hi => ?_⟩
      · have := World.block_lt_of_cell? _ _ hc
        simpa [Addr.add] using this
      · have hci := hcell i (by omega)
        rw [Addr.add_lit] at hci
        have hmem : zs.getD i 0 ∈ zs := by
          have hi' : i < zs.length := by omega
          rw [List.getD, List.getElem?_eq_getElem hi']
          exact List.getElem_mem hi'
        have hb := bounds_u8 (hwf _ hmem)
        exact ⟨(zs.getD i 0).toNat, by omega, by rw [hci]; congr 2; omega⟩
end Go.Proofs.YtmhohponikolfaaDoor
namespace Go.Proofs.YtmhohponikolfaaDoor
set_option linter.unusedVariables false
set_option linter.unusedSimpArgs false
open Go.ChangeShapes Go.WideShapes Go.ChangeAt Go.RowKit

/-- A block's cells, laid anew. -/
def laidRow (cs : Array Value) : Obj → Obj
  | .cells _ t frozen => .cells cs t frozen
  | o => o
theorem laid_mem {P : Program} {w : World} : ∀ {l : List (String × DataW Unit)} {ps : List MemPlace}, DataW.LaidVars P w l ps → ∀ (n : String) (d : DataW Unit), (n, d) ∈ l →
    ∃ g t cs fuel p, P.globalNamed n = some g ∧ (P.globals[g]?).map (·.type) = some t ∧ w.var? P n = some cs ∧ DataW.trod (fun _ => ()) P w 0 (fun _ => true) false fuel t cs.toList = some (d, p)
  | [], _, _, n, d, hm => by simp at hm
  | (n0, d0) :: r, ps, h, n, d, hm => by
    obtain ⟨g, t, cs, fuel, p, q, h1, h2, h3, h4, h5, _⟩ := h
    rcases List.mem_cons.1 hm with e | e
    · cases e
      exact ⟨g, t, cs, fuel, p, h1, h2, h3, h4⟩
    · exact laid_mem h5 n d e
end Go.Proofs.YtmhohponikolfaaDoor
namespace Go.Proofs.YtmhohponikolfaaDoor
set_option linter.unusedVariables false
set_option linter.unusedSimpArgs false
open Go.ChangeShapes Go.WideShapes Go.ChangeAt Go.RowKit
/-- A table of texts as a row lists it, and what its cells hold. -/
def stabData {H : Type} (zs : List (List UInt8)) : DataW H := .agg (zs.map fun z => .lit (.string z))
theorem cells_of_stab {H : Type} {enc : TypeId × Value → H} {P : Program} {w : World} {base : Nat} {sp : Nat → Bool} {held : Bool} {fuel : Nat} {t e : TypeId} {n : Nat} {cs : List Value} {zs : List (List UInt8)} {p : List MemPlace}
    (ht : P.underlying t = some (.array n e)) (he : P.underlying e = some .string) (hce : P.cellsOf e = 1) (hct : P.cellsOf t = n)
    (h : DataW.trod enc P w base sp held fuel t cs = some (stabData zs, p)) : cs = zs.map fun z => Value.string ⟨z.toArray⟩ := by
  cases fuel with
  | zero => simp [DataW.trod] at h
  | succ fuel =>
    simp only [DataW.trod, ht, hce, hct, Nat.mul_one] at h
    split at h
    · rename_i hl
      obtain ⟨xs, hm, hx⟩ := Option.map_eq_some_iff.1 h
      have hxs : xs.map (·.1) = zs.map fun z => (DataW.lit (.string z) : DataW H) := by
        have := congrArg Prod.fst hx
        simpa [stabData] using this
      have hxl : xs.length = n := by simpa using Lib.mapM_length hm
      have hzl : zs.length = n := by
        have := congrArg List.length hxs
        simp at this
        omega
      apply List.ext_getElem?
      intro i
      by_cases hi : i < n
      · obtain ⟨b, hb, hf⟩ := Lib.mapM_at hm i i (by simp [hi])
        obtain ⟨z, hc, rfl, _⟩ := DataW.trod_string he hf
        have h1 : cs[i]? = some (.string z) := by
          have := congrArg (·[0]?) hc
          simpa [List.getElem?_take, List.getElem?_drop] using this
        have h2 : (xs.map (·.1))[i]? = some (DataW.lit (.string z.data.toList) : DataW H) := by simp [hb]
        rw [hxs] at h2
        simp only [List.getElem?_map, Option.map_eq_some_iff, DataW.lit.injEq, Lit.string.injEq] at h2
        obtain ⟨z', hz', rfl⟩ := h2
        simp [h1, hz']
      · rw [List.getElem?_eq_none (by omega), List.getElem?_eq_none (by simp; omega)]
    · cases h
theorem trodVars_one' {H : Type} {enc : TypeId × Value → H} {P : Program} {w : World} {sp : Nat → Bool} {n : String} : ∀ {gs : List (DataW H)} {ps : List MemPlace}, DataW.TrodVars enc P w sp [n] gs ps → ∃ a, gs = [a]
  | [a], _, _ => ⟨a, rfl⟩
  | [], _, h => h.elim
  | _ :: _ :: _, _, h => by obtain ⟨_, _, _, _, _, _, _, _, _, _, h, _⟩ := h; exact h.elim
theorem stab_of_laid {P : Program} {W : World} {l : List (String × DataW Unit)} {n : String} {zs : List (List UInt8)} {g : Nat} {t e : TypeId} {c : Nat} (hm : (n, stabData zs) ∈ l) (h : laidMet P l W)
    (hg : P.globalNamed n = some g) (ht : (P.globals[g]?).map (·.type) = some t) (ha : P.underlying t = some (.array c e)) (he : P.underlying e = some .string) (hce : P.cellsOf e = 1) (hct : P.cellsOf t = c) (i : Nat) (hi : i < zs.length) :
    W.cell? ⟨g, i, none⟩ = some (.string ⟨(zs.getD i []).toArray⟩) := by
  obtain ⟨ps, hl, _⟩ := h
  obtain ⟨g', t', cs, fuel, p, h1, h2, h3, h4⟩ := laid_mem hl _ _ hm
  obtain rfl := Option.some.inj (hg.symm.trans h1)
  obtain rfl := Option.some.inj (ht.symm.trans h2)
  have hc := cells_of_stab ha he hce hct h4
  have := World.var?_cell hg h3 i
  rw [this, ← Array.getElem?_toList, hc]
  simp [List.getD, hi]
theorem hops_of_laid {W : World} {l : List (String × DataW Unit)} (h0 : ("loop.example/g00651/impl.fixedHopNames", Rows.laid_loop_example_g00651_impl_fixedHopNames) ∈ l) (h : laidMet Tryd.prog l W) : Hops W := by
  have key : ∀ k, k < 7 → W.cell? ⟨0, k, none⟩ = some (.string (txAt base7 k)) := by
    intro k hk
    have := stab_of_laid (g := 0) (t := 62) (zs := [[99, 111, 110, 110, 101, 99, 116, 105, 111, 110], [107, 101, 101, 112, 45, 97, 108, 105, 118, 101], [112, 114, 111, 120, 121, 45, 99, 111, 110, 110, 101, 99, 116, 105, 111, 110], [116, 101], [116, 114, 97, 105, 108, 101, 114], [116, 114, 97, 110, 115, 102, 101, 114, 45, 101, 110, 99, 111, 100, 105, 110, 103], [117, 112, 103, 114, 97, 100, 101]]) h0 h
      (by kernel_rfl) (by kernel_rfl) Tryd.underlying62 Tryd.underlying9 (by kernel_rfl) (by kernel_rfl) k hk
    rw [this]
    have hk7 : k = 0 ∨ k = 1 ∨ k = 2 ∨ k = 3 ∨ k = 4 ∨ k = 5 ∨ k = 6 := by omega
    rcases hk7 with rfl | rfl | rfl | rfl | rfl | rfl | rfl <;> rfl
  refine ⟨key, ?_⟩
  exact World.block_lt_of_cell? _ _ (key 0 (by omega))
end Go.Proofs.YtmhohponikolfaaDoor
