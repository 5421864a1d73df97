/-
  The drawing functions of chapter 5: lists of fields, bent or not. · Chapter 5: HopNames and EndToEnd, the specification's side. · What goes from end to end goes so again: on lists; the draw and the comparison of FnHops. · What every frame of this seat shares. · The code that a law is handed, as the walks want it. · What a card of a door seat of chapter 1 needs: the listed tables. · What a card of a door seat of chapter 5 needs: the table of the seven names.
-/
import Derived.Test.YtmhohponikolfaaGreatDoorJ3
import Derived.Test.YtmhohponikolfaaGreatDoorJ2
import Derived.Laws.OwnMore
import Derived.Test.YtmhohponikolfaaGreatDoorRows
import Derived.WalkKit
import Derived.ProofKit
import Derived.OpenShut
import Derived.ShutString
import Derived.ChangeOld
import Derived.Below
import Derived.Lib.SmallJoins
import Derived.Lib.LaidTab
import Derived.LaidLaws
import Derived.LaidHandle
import Derived.ChangeVars
import Derived.OpenVars
import Derived.SevenTiedAt
namespace Go.Proofs.YtmhohponikolfaaGreatDoor
set_option linter.unusedVariables false
set_option linter.unusedSimpArgs false
open Go.RowKit
/-- A row of fields that grows while numbers are drawn. -/
structure DBufF (p : Nat) (w0 w : World) (v : Value) (l : List Fd) : Prop where
  kp : Kp p w0 w
  own : w.ownsRow w0.heap.size 30 2 v l.length (cellsF l)
  st : Drw w p
  lt : p < w0.heap.size
theorem DBufF.start {p : Nat} {w : World} (h : Drw w p) : DBufF p w w (.slice none 0 0) [] := ⟨Kp.refl _ _, World.ownsRow_nil _ _ _ _, h, h.lt⟩
theorem DBufF.draw {p : Nat} {w0 w w' : World} {v : Value} {l : List Fd} (h : DBufF p w0 w v l) (hk : Kp p w w') (hd : Drw w' p) : DBufF p w0 w' v l := by
  refine ⟨h.kp.trans hk, h.own.kept hk ?_, hd, h.lt⟩
  cases hv : v.ownBlock with
  | none => exact Or.inl rfl
  | some g =>
    right
    intro e
    injection e with e
    have := (h.own.lt g hv).1
    have := h.lt
    omega
theorem DBufF.form {p : Nat} {w0 w : World} {v : Value} {l : List Fd} (h : DBufF p w0 w v l) : ∃ (a : Option Addr) (c : Nat), v = .slice a l.length c := by
  rcases h.own.2 with ⟨h1, h2⟩ | ⟨g, cap, cur, h1, _⟩
  · exact ⟨none, 0, by rw [h1, h2]⟩
  · exact ⟨_, _, h1⟩
theorem wp_dfapp {ops : Array Oper} {rest : List Oper} {o : Oper} {a : Act} {Q : Exit → Act → World → Prop} {p : Nat} {w0 W : World} (hgd : o.guard = none) (s x : Operand)
    (ho : o.op = .call { callee := .builtin .append, args := #[s, x], argTypes := #[23, 23] }) (v : Value) (l : List Fd) (hs : a.eval s = v) (hbuf : DBufF p w0 W v l)
    (d t : ByteArray) (hx : a.eval x = .slice (some ⟨W.heap.size, 0, none⟩) 1 1) (hlen : l.length ≤ 1000)
    (h : ∀ v' W', DBufF p w0 W' v' (l ++ [(d, t)]) → wpList Tryz.prog ops Q rest (a.put o.dst v') W') :
    wpList Tryz.prog ops Q (o :: rest) a (W.alloc (.cells #[.string d, .string t] 30)) := by
  obtain ⟨i0, hi, hz0, hz1, hz2⟩ := info_parts Tryz.infoF
  have hsz := hbuf.kp.size
  refine wpList_append_own _ hgd s x 23 ho w0.heap.size 30 i0 _ 2 32 Tryz.underlying23 hi hz0 hz1 hz2 rfl (by decide) v l.length (cellsF l) hs (hbuf.own.alloc _) ⟨W.heap.size, 0, none⟩ 1 1 (cellsF [(d, t)]) hx (by rw [cellsF_len]; rfl) ?_ (cellsF_one _) (by unfold maxLen; omega) (by omega) (by simp; omega) ?_
  · intro j u hu
    have hj : j < 2 := by have := (List.getElem?_eq_some_iff.1 hu).1; rwa [cellsF_len] at this
    rw [Addr.add_lit, Nat.zero_add, (Blk.new W _ _).cell j, ← hu]
    rcases j with _ | _ | j
    · rfl
    · rfl
    · omega
  intro v' W' hown hgrow _
  have hne : ∀ k, v.ownBlock = some k → w0.heap.size ≤ k := fun k hk => (hbuf.own.lt k hk).1
  have hlt := hbuf.lt
  have hstlt := hbuf.st.lt
  refine h v' W' ⟨?_, ?_, ?_, hlt⟩
  · refine ⟨hgrow.os.trans (hbuf.kp.alloc _).os, hgrow.tape.trans (hbuf.kp.alloc _).tape, hgrow.output.trans (hbuf.kp.alloc _).output, Nat.le_trans (hbuf.kp.alloc _).size hgrow.size, fun k hk hkne => ?_⟩
    refine (hgrow.block k ?_ ?_).trans ((hbuf.kp.alloc _).block k hk hkne)
    · simp; omega
    · intro e; have := hne k e.symm; omega
  · rw [List.length_append, List.length_singleton, cellsF_app]
    exact hown
  · obtain ⟨a1, len, cap, i, hh, h1, h2, h3⟩ := hbuf.st
    have old : ∀ k, k < w0.heap.size → W'.heap[k]? = W.heap[k]? := by
      intro k hk
      rw [hgrow.block k (by simp; omega) (fun e => by have := hne k e.symm; omega)]
      exact Below.heap_alloc _ _ _ (by omega)
    exact ⟨a1, len, cap, i, hh, (old p hlt).trans h1, h2.kept (fun k hk => old k (by omega)), h3⟩
def slLen : Value → Nat
  | .slice _ n _ => n
  | _ => 0
/-- Names and values are short. -/
def Short (l : List Fd) : Prop := ∀ x ∈ l, x.1.size ≤ 100 ∧ x.2.size ≤ 100
theorem Short.snoc {l : List Fd} (h : Short l) {d s : ByteArray} (hd : d.size ≤ 100) (hs : s.size ≤ 100) : Short (l ++ [(d, s)]) := by
  intro x hx
  rcases List.mem_append.1 hx with hx | hx
  · exact h x hx
  · simp at hx; subst hx; exact ⟨hd, hs⟩
theorem short_tot {l : List Fd} (h : Short l) (hl : l.length ≤ 100) : totF l ≤ 1099511627776 := by
  have : ∀ m : List Fd, Short m → totF m ≤ m.length * 200 := by
    intro m
    induction m with
    | nil => intro _; simp [totF]
    | cons x m ih =>
      intro hs
      have h1 := hs x (by simp)
      have h2 := ih (fun y hy => hs y (by simp [hy]))
      have e : totF (x :: m) = szF x + totF m := by simp [totF]
      rw [e, List.length_cons, Nat.add_mul]
      simp only [szF]; omega
  have h1 := this l h
  have h2 : l.length * 200 ≤ 100 * 200 := Nat.mul_le_mul_right _ hl
  omega
set_option maxRecDepth 10000 in
set_option maxHeartbeats 4000000 in
theorem l5list_any (p : Nat) (w : World) (hd : Drw w p) :
    Calls Tryz.prog 63 #[.pointer (some ⟨p, 0, none⟩)] w fun e w' => ∃ v l, e = .returned v ∧ l.length ≤ 21 ∧ (∀ x ∈ l, x.1.size ≤ 40 ∧ x.2.size ≤ 40) ∧ DBufF p w w' v l := by
  go_enter Tryz.func63, Tryz.ntmps63
  go_wp2_with fail
  refine (l1Below_any p 7 _ hd (by omega)).mono ?_
  rintro e w1 ⟨⟨n, hn, _, _, rfl⟩, hk1, hd1⟩
  have hn7 : n < 7 := by have := hn (by omega); omega
  have HB0 := hideB2 ((DBufF.start hd).draw hk1 hd1)
  clear hn hk1 hd1 hd
  go_wp2
  go_loopw [3, 4] (fun o i wr => ∃ (k : Nat) (l : List Fd), i = .int .i64 k ∧ l.length + k ≤ 6 ∧ (∀ x ∈ l, x.1.size ≤ 40 ∧ x.2.size ≤ 40) ∧ DBufF p w wr o l) (fun _ i _ => (intOf i).toNat)
  case atStart => exact ⟨n, [], rfl, by simp; omega, fun x hx => by simp at hx, HB0.out⟩
  case round =>
    obtain ⟨k, l, rfl, hl, hsh, hbuf⟩ := hrel
    clear HB0
    have HSH := hideB2 hsh
    by_cases hk0 : 0 < k
    · obtain ⟨j, rfl⟩ : ∃ j, k = j + 1 := ⟨k - 1, by omega⟩
      have h1 : (0 : Int) < ((j + 1 : Nat) : Int) := by omega
      have e1 : IntKind.i64.wrap (((j + 1 : Nat) : Int) - 1) = (j : Int) := by rw [IntKind.wrap_i64]; omega
      clear hsh
      go_wp2_with (first | (go_at_call 106; refine (l5field_any p _ hbuf.st).mono ?_; rintro e w2 ⟨⟨d, s, hds, hss, rfl⟩, hk2, hd2⟩; have hbuf2 := hbuf.draw hk2 hd2) | (at_builtin; refine wp_dfapp rfl (.tmp 11) (.tmp 14) rfl _ _ rfl hbuf2 d s rfl (by omega) ?_; intro v3 W3 hbuf3))
      refine ⟨⟨j, l ++ [(d, s)], by go_num, by simp; omega, ?_, hbuf3⟩, by simp [intOf]⟩
      intro x hx
      rcases List.mem_append.1 hx with hx | hx
      · exact HSH.out x hx
      · simp at hx; subst hx; exact ⟨by simp only; omega, by simp only; omega⟩
    · have h1 : ¬ (0 : Int) < (k : Int) := by omega
      clear hsh
      go_wp2_with fail
      refine (l1Once_any p 12 _ hbuf.st (by omega)).mono ?_
      rintro e w2 ⟨⟨b2, rfl⟩, hk2, hd2⟩
      have hbuf2 := hbuf.draw hk2 hd2
      clear hbuf hk2 hd2 h1
      cases b2
      · go_wp2
        go_ret
        exact ⟨_, l, rfl, by omega, HSH.out, hbuf2⟩
      · have HB2 := hideB2 hbuf2
        clear hbuf2
        go_wp2
        go_loopw [3] (fun o wq => ∃ (m : List Fd), m.length ≤ 21 ∧ (∀ x ∈ m, x.1.size ≤ 40 ∧ x.2.size ≤ 40) ∧ DBufF p w wq o m) (fun o _ => 22 - slLen o)
        case atStart => exact ⟨l, by omega, HSH.out, HB2.out⟩
        case round =>
          obtain ⟨m, hm, hsh, hbuf⟩ := hrel
          have HSM := hideB2 hsh
          obtain ⟨ao, co, rfl⟩ := hbuf.form
          clear hsh HB2 HSH
          go_wp2_with fail
          refine (l1Below_any p 2 _ hbuf.st (by omega)).mono ?_
          rintro e w3 ⟨⟨u, hu, _, _, rfl⟩, hk3, hd3⟩
          have hu2 : u < 2 := by have := hu (by omega); omega
          have hbuf3 := hbuf.draw hk3 hd3
          have e1 : IntKind.i64.wrap (20 + (u : Int)) = 20 + (u : Int) := by rw [IntKind.wrap_i64]; omega
          clear hbuf hk3 hd3 hu
          by_cases hlt : (m.length : Int) < 20 + (u : Int)
          · go_wp2_with (at_builtin; refine wp_dfapp rfl (.tmp 24) (.tmp 26) rfl _ _ rfl hbuf3 ⟨#[70]⟩ ⟨#[]⟩ rfl (by omega) ?_; intro v4 W4 hbuf4)
            obtain ⟨a4, c4, rfl⟩ := hbuf4.form
            refine ⟨⟨m ++ [(⟨#[70]⟩, ⟨#[]⟩)], by simp; omega, ?_, hbuf4⟩, by simp [slLen]; omega⟩
            intro x hx
            rcases List.mem_append.1 hx with hx | hx
            · exact HSM.out x hx
            · simp at hx; subst hx; decide
          · go_wp2
            go_ret
            exact ⟨_, m, rfl, hm, HSM.out, hbuf3⟩
theorem cellsF_setN (l : List Fd) (d : ByteArray) : ∀ k, k < l.length → (cellsF l).set (k * 2) (.string d) = cellsF (l.set k (d, (fdAt l k).2)) := by
  induction l with
  | nil => intro k hk; simp at hk
  | cons x l ih =>
    intro k hk
    cases k with
    | zero => rfl
    | succ k =>
      rw [cellsF_cons, List.set_cons_succ, cellsF_cons, show (k + 1) * 2 = k * 2 + 1 + 1 by omega, List.set_cons_succ, List.set_cons_succ, ih k (by simpa using hk)]; rfl
theorem cellsF_setV (l : List Fd) (d : ByteArray) : ∀ k, k < l.length → (cellsF l).set (k * 2 + 1) (.string d) = cellsF (l.set k ((fdAt l k).1, d)) := by
  induction l with
  | nil => intro k hk; simp at hk
  | cons x l ih =>
    intro k hk
    cases k with
    | zero => rfl
    | succ k =>
      have e := ih k (by simpa using hk)
      rw [show (k + 1) * 2 + 1 = k * 2 + 1 + 1 + 1 by omega, cellsF_cons, List.set_cons_succ, List.set_cons_succ, e, List.set_cons_succ, cellsF_cons]; rfl
theorem DBufF.store {p : Nat} {w0 w : World} {g cap : Nat} {l l' : List Fd} (h : DBufF p w0 w (.slice (some ⟨g, 0, none⟩) l.length cap) l) (j : Nat) (y : ByteArray) (hl : l'.length = l.length) (hc : (cellsF l).set j (.string y) = cellsF l') : DBufF p w0 (w.setCell ⟨g, j, none⟩ (.string y)) (.slice (some ⟨g, 0, none⟩) l.length cap) l' := by
  have hg := (h.own.lt g rfl).1
  have hlt := h.lt
  refine ⟨h.kp.setNew hg j _, ?_, h.st.setNew (by omega) j _, h.lt⟩
  rw [hl, ← hc]
  exact (h.own.stored j (.string y)).1
theorem DBufF.at {p : Nat} {w0 w : World} {a : Option Addr} {n cap : Nat} {l : List Fd} (h : DBufF p w0 w (.slice a n cap) l) {k : Nat} (hk : k < l.length) : ∃ g, a = some ⟨g, 0, none⟩ ∧ w0.heap.size ≤ g ∧ w.cell? ⟨g, k * 2, none⟩ = some (.string (fdAt l k).1) ∧ w.cell? ⟨g, k * 2 + 1, none⟩ = some (.string (fdAt l k).2) ∧ w.frozen? ⟨g, k * 2, none⟩ = false ∧ w.frozen? ⟨g, k * 2 + 1, none⟩ = false := by
  have ho := h.own
  rcases h.own.2 with ⟨h1, h2⟩ | ⟨g, cap', cur, h1, hg, hh, _⟩
  · omega
  · injection h1 with e1 e2 e3
    subst e1 e2 e3
    refine ⟨g, rfl, hg, ?_, ?_, ho.frozenAt _, ho.frozenAt _⟩
    · rw [ho.cellAt (k * 2) (by omega)]; exact (cellsF_at l k hk).1
    · rw [ho.cellAt (k * 2 + 1) (by omega)]; exact (cellsF_at l k hk).2
theorem Short.set {l : List Fd} (h : Short l) (k : Nat) {x : Fd} (hx : x.1.size ≤ 100 ∧ x.2.size ≤ 100) : Short (l.set k x) := by
  intro y hy
  rcases List.mem_or_eq_of_mem_set hy with hy | rfl
  · exact h y hy
  · exact hx
theorem short_of {l : List Fd} (h : ∀ x ∈ l, x.1.size ≤ 40 ∧ x.2.size ≤ 40) : Short l := fun x hx => by have := h x hx; omega
set_option maxRecDepth 10000 in
set_option maxHeartbeats 4000000 in
theorem l5bent_any (p : Nat) (w : World) (hd : Drw w p) :
    Calls Tryz.prog 25 #[.pointer (some ⟨p, 0, none⟩)] w fun e w' => ∃ v l, e = .returned v ∧ l.length ≤ 21 ∧ Short l ∧ DBufF p w w' v l := by
  go_enter Tryz.func25, Tryz.ntmps25
  go_wp2_with fail
  refine (l5list_any p _ hd).mono ?_
  rintro e w1 ⟨v, l, rfl, hl, hsh, hbuf⟩
  obtain ⟨a1, c1, rfl⟩ := hbuf.form
  have HSH := hideB2 hsh
  clear hsh hd
  go_wp2_with fail
  refine (l1Once_any p 8 _ hbuf.st (by omega)).mono ?_
  rintro e w2 ⟨⟨b, rfl⟩, hk2, hd2⟩
  have hbuf2 := hbuf.draw hk2 hd2
  clear hbuf hk2 hd2
  cases b
  · go_wp2
    go_ret
    exact ⟨_, l, rfl, hl, short_of HSH.out, hbuf2⟩
  · by_cases h0 : 0 < l.length
    · have h0' : (0 : Int) < (l.length : Int) := by omega
      go_wp2_with fail
      refine (l1Below_any p (l.length : Int) _ hbuf2.st (by omega)).mono ?_
      rintro e w3 ⟨⟨k, hk, _, _, rfl⟩, hk3, hd3⟩
      have hkl : k < l.length := by have := hk (by omega); omega
      have hbuf3 := hbuf2.draw hk3 hd3
      clear hbuf2 hk3 hd3 hk
      have hki : (k : Int) < (l.length : Int) := by omega
      go_wp2_with fail
      refine (l1Below_any p 3 _ hbuf3.st (by omega)).mono ?_
      rintro e w4 ⟨⟨u, hu, _, _, rfl⟩, hk4, hd4⟩
      have hu3 : u < 3 := by have := hu (by omega); omega
      have hbuf4 := hbuf3.draw hk4 hd4
      clear hbuf3 hk4 hd4 hu
      obtain ⟨g, rfl, hg, p0, p1, f0, f1⟩ := hbuf4.at hkl
      have hx := HSH.out (fdAt l k) (by rw [fdAt_get hkl]; exact List.getElem_mem _)
      have HCN := hideB2 (fun d => cellsF_setN l d k hkl)
      have HCV := hideB2 (fun d => cellsF_setV l d k hkl)
      generalize fdAt l k = x at *
      obtain ⟨d, s⟩ := x
      simp only at p0 p1 hx HCN HCV
      have hc : u = 0 ∨ u = 1 ∨ u = 2 := by omega
      rcases hc with rfl | rfl | rfl
      · go_wp2_with fail
        refine (l1bend_any p d _ hbuf4.st (by omega)).mono ?_
        rintro e w5 ⟨⟨t, ht, rfl⟩, hk5, hd5⟩
        have hbuf5 := hbuf4.draw hk5 hd5
        clear p0 p1 f0 f1
        obtain ⟨g', e', _, p0, p1, f0, f1⟩ := hbuf5.at hkl
        cases e'
        have HB := hideB2 (hbuf5.store (k * 2) t (l' := l.set k (t, s)) (by simp) (HCN.out t))
        have HLL := hideB2 (show (l.set k (t, s)).length = l.length by simp)
        have HS2 := hideB2 ((short_of HSH.out).set k (x := (t, s)) (by constructor <;> simp only <;> omega))
        generalize fdAt l k = x at *
        clear hbuf4 hbuf5 hk5 hd5 HCN HCV
        go_wp2
        go_ret
        exact ⟨_, l.set k (t, s), rfl, by rw [HLL.out]; exact hl, HS2.out, HB.out⟩
      · have HB := hideB2 (hbuf4.store (k * 2 + 1) ((⟨#[32]⟩ : ByteArray) ++ s) (l' := l.set k (d, (⟨#[32]⟩ : ByteArray) ++ s)) (by simp) (HCV.out _))
        have HLL := hideB2 (show (l.set k (d, (⟨#[32]⟩ : ByteArray) ++ s)).length = l.length by simp)
        have h33 : (⟨#[32]⟩ ++ s : ByteArray).size ≤ 41 := by
          rw [ByteArray.size_append]
          have : (ByteArray.mk #[32]).size = 1 := rfl
          omega
        have HS2 := hideB2 ((short_of HSH.out).set k (x := (d, (⟨#[32]⟩ : ByteArray) ++ s)) (by constructor <;> simp only <;> omega))
        clear hbuf4 HCN HCV
        go_wp2
        go_ret
        exact ⟨_, _, rfl, Nat.le_trans (Nat.le_of_eq HLL.out) hl, HS2.out, HB.out⟩
      · go_wp2_with fail
        refine (l1bend_any p s _ hbuf4.st (by omega)).mono ?_
        rintro e w5 ⟨⟨t, ht, rfl⟩, hk5, hd5⟩
        have hbuf5 := hbuf4.draw hk5 hd5
        clear p0 p1 f0 f1
        obtain ⟨g', e', _, p0, p1, f0, f1⟩ := hbuf5.at hkl
        cases e'
        have HB := hideB2 (hbuf5.store (k * 2 + 1) t (l' := l.set k (d, t)) (by simp) (HCV.out t))
        have HLL := hideB2 (show (l.set k (d, t)).length = l.length by simp)
        have HS2 := hideB2 ((short_of HSH.out).set k (x := (d, t)) (by constructor <;> simp only <;> omega))
        generalize fdAt l k = x at *
        clear hbuf4 hbuf5 hk5 hd5 HCN HCV
        go_wp2
        go_ret
        exact ⟨_, l.set k (d, t), rfl, by rw [HLL.out]; exact hl, HS2.out, HB.out⟩
    · have h0' : ¬ (0 : Int) < (l.length : Int) := by omega
      go_wp2
      go_ret
      exact ⟨_, l, rfl, hl, short_of HSH.out, hbuf2⟩
end Go.Proofs.YtmhohponikolfaaGreatDoor
namespace Go.Proofs.YtmhohponikolfaaGreatDoor
set_option linter.unusedVariables false
set_option linter.unusedSimpArgs false
open Go.RowKit Go.Maps
theorem inNl_no {M : List ByteArray} {s : ByteArray} (h : ∀ j, j < M.length → eqB (txAt M j) s = false) : inNl M s = false := by
  cases hh : inNl M s with
  | false => rfl
  | true =>
    have := inNl_iff.1 hh
    obtain ⟨j, hj, he⟩ := List.mem_iff_getElem.1 this
    have h1 := h j hj
    rw [txAt_get hj, he, eqB_self] at h1
    cases h1
theorem inNl_yes {M : List ByteArray} {s : ByteArray} {j : Nat} (hj : j < M.length) (h : eqB (txAt M j) s = true) : inNl M s = true := by
  rw [inNl_iff, ← eqB_iff.1 h, txAt_get hj]; exact List.getElem_mem _
set_option maxHeartbeats 1000000 in
theorem l5in_any (v : Value) (M : List ByteArray) (s : ByteArray) (w : World) (hv : SlT w v M) (hl : M.length ≤ 1000000) :
    Calls Tryz.prog 75 #[v, .string s] w fun e w' => e = .returned (.bool (inNl M s)) ∧ Below w.heap.size w w' := by
  obtain ⟨a, c0, rfl⟩ := hv.form
  generalize hR : inNl M s = R
  have HR := hideB2 hR
  have HV := hideB2 hv
  clear hR hv
  generalize hm : M.length = m at *
  have HM := hideB2 hm
  clear hm
  go_enter Tryz.func75, Tryz.ntmps75
  go_wp2
  go_loopw [5] (fun i wr => ∃ k : Nat, k ≤ m ∧ i = .int .i64 k ∧ (∀ j, j < k → eqB (txAt M j) s = false) ∧ Below w.heap.size w wr) (fun i _ => m - (intOf i).toNat)
  case atStart => exact ⟨0, Nat.zero_le _, rfl, fun j hj => absurd hj (by omega), Below.refl _ _⟩
  case round =>
    obtain ⟨k, hk, rfl, hall, hb⟩ := hrel
    by_cases hlt : k < m
    · have hklt : k < M.length := by rw [HM.out]; exact hlt
      obtain ⟨b, rfl, hr⟩ := HV.out.row (by omega)
      have p0 := (hr.keep hb).cell k hklt
      have HALL := hideB2 hall
      have HBW := hideB2 hb
      have HY := hideB2 (fun h => inNl_yes (s := s) hklt h)
      clear hr hall hb hklt
      generalize hx : txAt M k = x at *
      have HX := hideB2 hx
      clear hx
      cases hc : eqB x s
      · have hc2 : (x.toList == s.toList) = false := hc
        have HC := hideB2 hc
        clear hc HY
        go_wp2
        refine ⟨⟨k + 1, by omega, by go_num, fun j hj => ?_, HBW.out⟩, by simp [intOf]; omega⟩
        by_cases e : j = k
        · subst e; rw [HX.out]; exact HC.out
        · exact HALL.out j (by omega)
      · have hc2 : (x.toList == s.toList) = true := hc
        have HF := hideB2 (HR.out.symm.trans (HY.out hc))
        clear hc HY
        go_wp2
        go_ret
        exact ⟨ret_bool HF.out, HBW.out⟩
    · obtain rfl : k = m := by omega
      have HF := hideB2 (HR.out.symm.trans (inNl_no (fun j hj => hall j (by rw [HM.out] at hj; exact hj))))
      clear hall
      go_wp2
      go_ret
      exact ⟨ret_bool HF.out, hb⟩
/-- What stands in the new list after k of the old one: s has been put in (t) or not. -/
def putTo (M : List ByteArray) (s : ByteArray) (k : Nat) (t : Bool) : List ByteArray := if t = true then insM s (M.take k) else M.take k
def pastK (M : List ByteArray) (s : ByteArray) (k : Nat) (t : Bool) : Prop := (t = true → ∃ x ∈ M.take k, Op.bytesLess s.toList x.toList = true) ∧ (t = false → ∀ x ∈ M.take k, Op.bytesLess s.toList x.toList = false)
theorem take_txt (M : List ByteArray) (k : Nat) (h : k < M.length) : M.take (k + 1) = M.take k ++ [txAt M k] := by rw [List.take_succ_eq_append_getElem h, txAt_get h]
theorem putTo_yes {M : List ByteArray} {s : ByteArray} {k : Nat} (h : k < M.length) (hp : pastK M s k true) : pastK M s (k + 1) true ∧ putTo M s (k + 1) true = putTo M s k true ++ [txAt M k] := by
  refine ⟨⟨fun _ => ?_, fun hh => by cases hh⟩, ?_⟩
  · obtain ⟨x, hx, hl⟩ := hp.1 rfl
    exact ⟨x, by rw [take_txt M k h]; simp [hx], hl⟩
  · unfold putTo
    rw [if_pos rfl, if_pos rfl, take_txt M k h, insM_done _ _ _ (hp.1 rfl)]
theorem putTo_here {M : List ByteArray} {s : ByteArray} {k : Nat} (h : k < M.length) (hp : pastK M s k false) (hl : Op.bytesLess s.toList (txAt M k).toList = true) : pastK M s (k + 1) true ∧ putTo M s (k + 1) true = putTo M s k false ++ [s] ++ [txAt M k] := by
  refine ⟨⟨fun _ => ⟨_, by rw [take_txt M k h]; simp, hl⟩, fun hh => by cases hh⟩, ?_⟩
  unfold putTo
  rw [if_pos rfl, if_neg (by simp), take_txt M k h, insM_past _ _ _ (hp.2 rfl), insM, if_pos hl]; simp
theorem putTo_on {M : List ByteArray} {s : ByteArray} {k : Nat} (h : k < M.length) (hp : pastK M s k false) (hl : Op.bytesLess s.toList (txAt M k).toList = false) : pastK M s (k + 1) false ∧ putTo M s (k + 1) false = putTo M s k false ++ [txAt M k] := by
  refine ⟨⟨fun hh => (by cases hh), fun _ x hx => ?_⟩, ?_⟩
  · rw [take_txt M k h, List.mem_append, List.mem_singleton] at hx
    rcases hx with hx | rfl
    · exact hp.2 rfl x hx
    · exact hl
  · unfold putTo
    rw [if_neg (by simp), if_neg (by simp), take_txt M k h]
theorem putTo_end_yes {M : List ByteArray} {s : ByteArray} : putTo M s M.length true = insM s M := by unfold putTo; rw [if_pos rfl, List.take_length]
theorem putTo_end_no {M : List ByteArray} {s : ByteArray} (hp : pastK M s M.length false) : putTo M s M.length false ++ [s] = insM s M := by
  have h2 := hp.2 rfl
  unfold putTo
  rw [if_neg (by simp)]
  rw [List.take_length] at h2 ⊢
  have := insM_past s M [] h2
  rw [List.append_nil] at this
  rw [this]; rfl
theorem putTo_len (M : List ByteArray) (s : ByteArray) (k : Nat) (t : Bool) : (putTo M s k t).length ≤ M.length + 1 := by
  unfold putTo
  split
  · rw [insM_len, List.length_take]; omega
  · rw [List.length_take]; omega
set_option maxHeartbeats 4000000 in
theorem l5put_any (w0 : World) (v : Value) (M : List ByteArray) (s : ByteArray) (w : World) (hv : BufS w0 w v M) (hl : M.length ≤ 10000) :
    Calls Tryz.prog 33 #[v, .string s] w fun e w' => ∃ v', e = .returned v' ∧ BufS w0 w' v' (putM M s) ∧ Below w.heap.size w w' := by
  obtain ⟨hs, _, _⟩ := hv.ans
  have HIN := hideB2 (l5in_any v M s w hs (by omega))
  obtain ⟨a, c0, rfl⟩ := hs.form
  cases hi : inNl M s
  · have HP := hideB2 (show putM M s = insM s M by unfold putM; rw [hi]; rfl)
    rw [hi] at HIN
    have HV := hideB2 hs
    have HB0 := hideB2 hv.below
    have HPL := hideB2 (putTo_len M s)
    have HEY := hideB2 (putTo_end_yes (M := M) (s := s))
    have HEN := hideB2 (fun h => putTo_end_no (M := M) (s := s) h)
    clear hi hs hv
    generalize hm : M.length = m at *
    have HM := hideB2 hm
    clear hm
    go_enter Tryz.func33, Tryz.ntmps33
    go_wp2_with fail
    refine HIN.out.mono ?_
    rintro e w1 ⟨rfl, hb1⟩
    have HB1 := hideB2 hb1
    clear hb1 HIN
    go_wp2
    go_loopw [5, 6, 7] (fun o d i wr => ∃ (k : Nat) (t : Bool), k ≤ m ∧ i = .int .i64 k ∧ d = .bool t ∧ pastK M s k t ∧ BufS w wr o (putTo M s k t)) (fun _ _ i _ => m - (intOf i).toNat)
    case atStart => exact ⟨0, false, Nat.zero_le _, rfl, rfl, ⟨fun h => (by cases h), fun _ x hx => by simp at hx⟩, (BufS.start w).later HB1.out⟩
    case round =>
      obtain ⟨k, t, hk, rfl, rfl, hp, hbuf⟩ := hrel
      clear HB1
      by_cases hlt : k < m
      · have hklt : k < M.length := by rw [HM.out]; exact hlt
        obtain ⟨b, rfl, hr⟩ := HV.out.row (by omega)
        have p0 := (hr.keep hbuf.below).cell k hklt
        have hpl := HPL.out k t
        have hkr : ∀ W v' L, BufS w W v' L → W.cell? ⟨b, k, none⟩ = some (.string (txAt M k)) := fun W v' L h => (hr.keep h.below).cell k hklt
        have HKR := hideB2 hkr
        clear hr hkr
        cases t
        · cases hl2 : Op.bytesLess s.toList (txAt M k).toList
          · obtain ⟨hp2, he⟩ := putTo_on hklt hp hl2
            have HP2 := hideB2 hp2
            have HE := hideB2 he
            clear hp2 he hp hklt
            generalize txAt M k = x at *
            generalize putTo M s k false = L at *
            go_wp2_with (at_builtin; refine wp_sapp rfl (.tmp 32) (.tmp 37) rfl _ _ rfl hbuf x rfl (by omega) ?_; intro v4 W4 hbuf4)
            exact ⟨⟨k + 1, false, by omega, by go_num, rfl, HP2.out, by rw [HE.out]; exact hbuf4⟩, by simp [intOf]; omega⟩
          · obtain ⟨hp2, he⟩ := putTo_here hklt hp hl2
            have HP2 := hideB2 hp2
            have HE := hideB2 he
            clear hp2 he hp hklt
            generalize hx : txAt M k = x at *
            clear hx
            generalize putTo M s k false = L at *
            go_wp2_with (first | (at_builtin; refine wp_sapp rfl (.tmp 28) (.tmp 30) rfl _ _ rfl hbuf s rfl (by omega) ?_; intro v4 W4 hbuf4; have p4 := HKR.out W4 v4 _ hbuf4) | (at_builtin; refine wp_sapp rfl (.tmp 32) (.tmp 37) rfl _ _ rfl hbuf4 x rfl (by simp; omega) ?_; intro v5 W5 hbuf5))
            exact ⟨⟨k + 1, true, by omega, by go_num, rfl, HP2.out, by rw [HE.out]; exact hbuf5⟩, by simp [intOf]; omega⟩
        · obtain ⟨hp2, he⟩ := putTo_yes hklt hp
          have HP2 := hideB2 hp2
          have HE := hideB2 he
          clear hp2 he hp hklt
          generalize txAt M k = x at *
          generalize putTo M s k true = L at *
          go_wp2_with (at_builtin; refine wp_sapp rfl (.tmp 32) (.tmp 37) rfl _ _ rfl hbuf x rfl (by omega) ?_; intro v4 W4 hbuf4)
          exact ⟨⟨k + 1, true, by omega, by go_num, rfl, HP2.out, by rw [HE.out]; exact hbuf4⟩, by simp [intOf]; omega⟩
      · obtain rfl : k = m := by omega
        have hpl := HPL.out k t
        cases t
        · have HE := hideB2 (HEN.out hp)
          generalize putTo M s k false = L at *
          clear hp HEY HEN
          go_wp2_with (at_builtin; refine wp_sapp rfl (.tmp 41) (.tmp 43) rfl _ _ rfl hbuf s rfl (by omega) ?_; intro v4 W4 hbuf4)
          go_ret
          exact ⟨_, rfl, by rw [HP.out, ← HE.out]; exact hbuf4.base HB0.out, hbuf4.below⟩
        · rw [HEY.out, ← HP.out] at hbuf
          clear hp HEY HEN
          go_wp2
          go_ret
          exact ⟨_, rfl, hbuf.base HB0.out, hbuf.below⟩
  · have HP := hideB2 (show putM M s = M by unfold putM; rw [hi]; rfl)
    rw [hi] at HIN
    have HV := hideB2 hv
    clear hi hs hv
    go_enter Tryz.func33, Tryz.ntmps33
    go_wp2_with fail
    refine HIN.out.mono ?_
    rintro e w1 ⟨rfl, hb1⟩
    have HR := hideB2 (HV.out.later hb1)
    have HBB := hideB2 hb1
    clear hb1 HIN HV
    go_wp2
    go_ret
    exact ⟨_, rfl, by rw [HP.out]; exact HR.out, HBB.out⟩
/-- The seven in a row of the call's own. -/
theorem base7_buf (w : World) : BufS w (w.alloc (.cells #[.string ⟨#[99, 111, 110, 110, 101, 99, 116, 105, 111, 110]⟩, .string ⟨#[107, 101, 101, 112, 45, 97, 108, 105, 118, 101]⟩, .string ⟨#[112, 114, 111, 120, 121, 45, 99, 111, 110, 110, 101, 99, 116, 105, 111, 110]⟩, .string ⟨#[116, 101]⟩, .string ⟨#[116, 114, 97, 105, 108, 101, 114]⟩, .string ⟨#[116, 114, 97, 110, 115, 102, 101, 114, 45, 101, 110, 99, 111, 100, 105, 110, 103]⟩, .string ⟨#[117, 112, 103, 114, 97, 100, 101]⟩] 9)) (.slice (some ⟨w.heap.size, 0, none⟩) 7 7) base7 := by
  refine ⟨(Below.refl _ w).alloc (Nat.le_refl _) _, rfl, .inr ⟨w.heap.size, 7, _, rfl, Nat.le_refl _, heap_alloc_new w _, Nat.le_refl _, by decide, rfl, rfl⟩⟩
set_option maxHeartbeats 4000000 in
theorem sHopNames_any (v : Value) (l : List Fd) (w : World) (hv : SlF w v l) (hl : l.length ≤ 1048576) (ht : totF l ≤ 1099511627776) :
    Calls Tryz.prog 10 #[v] w fun e w' => ∃ v', e = .returned v' ∧ BufS w w' v' (hopL l) := by
  have HW := hideB2 (fun W (h : SlF W v l) => sWords_any v l cnB W h hl ht (by unfold maxLen; decide))
  have hWf := hopW_facts l
  obtain ⟨a, c0, rfl⟩ := hv.form
  cases hq : fieldsQ l
  · have HF := hideB2 (show hopL l = [] by unfold hopL; rw [hq]; rfl)
    have HQ := hideB2 hq
    clear hq
    go_enter Tryz.func10, Tryz.ntmps10
    go_wp2_with (go_at_call 30; refine (sFieldsOk_any _ l _ hv hl ht).mono ?_; rintro e w2 ⟨rfl, hb2⟩; rw [HQ.out])
    go_ret
    exact ⟨_, rfl, by rw [HF.out]; exact (BufS.start w).later hb2⟩
  · have HF := hideB2 (show hopL l = hopTo (hopW l) by unfold hopL; rw [hq]; rfl)
    have HQ := hideB2 hq
    have HV := hideB2 hv
    unfold hopW at HF hWf
    generalize elsB (joinB (valuesL l cnB)) = Wd at *
    obtain ⟨hWl, hWs⟩ := hWf
    have HWS := hideB2 hWs
    clear hq hv hWs
    go_enter Tryz.func10, Tryz.ntmps10
    go_wp2_with fail
    refine (sFieldsOk_any _ l _ HV.out hl ht).mono ?_
    rintro e w2 ⟨rfl, hb2⟩
    rw [HQ.out]
    have HB7 := hideB2 ((base7_buf w2).base hb2)
    have HB2 := hideB2 (below_then hb2 (below_a1 w2 (.cells #[.string ⟨#[99, 111, 110, 110, 101, 99, 116, 105, 111, 110]⟩, .string ⟨#[107, 101, 101, 112, 45, 97, 108, 105, 118, 101]⟩, .string ⟨#[112, 114, 111, 120, 121, 45, 99, 111, 110, 110, 101, 99, 116, 105, 111, 110]⟩, .string ⟨#[116, 101]⟩, .string ⟨#[116, 114, 97, 105, 108, 101, 114]⟩, .string ⟨#[116, 114, 97, 110, 115, 102, 101, 114, 45, 101, 110, 99, 111, 100, 105, 110, 103]⟩, .string ⟨#[117, 112, 103, 114, 97, 100, 101]⟩] 9)))
    clear hb2
    go_wp2_with fail
    generalize hWa : w2.alloc _ = W2 at *
    clear hWa
    generalize w2.heap.size = B2 at *
    refine (HW.out _ (HV.out.later HB2.out)).mono ?_
    rintro e w3 ⟨v3, rfl, hbuf3⟩
    obtain ⟨hs3, _, hb3⟩ := hbuf3.ans
    have HBF := hideB2 (HB7.out.later hb3)
    obtain ⟨a3, c3, rfl⟩ := hs3.form
    have HS3 := hideB2 hs3
    clear hbuf3 hs3 hb3 HB7 HB2
    generalize hm : Wd.length = m at *
    have HM := hideB2 hm
    clear hm
    go_wp2
    go_loopw [3, 5] (fun o i wq => ∃ k : Nat, k ≤ m ∧ i = .int .i64 k ∧ BufS w wq o (hopTo (Wd.take k)) ∧ SlT wq (.slice a3 m c3) Wd) (fun _ i _ => m - (intOf i).toNat)
    case atStart => exact ⟨0, Nat.zero_le _, rfl, HBF.out, HS3.out⟩
    case round =>
      obtain ⟨i, hi, rfl, hbuf, hs⟩ := hrel
      clear HBF HS3
      by_cases hlt2 : i < m
      · have hilt : i < Wd.length := by rw [HM.out]; exact hlt2
        obtain ⟨b, rfl, hr⟩ := hs.row (by omega)
        have p0 := hr.cell i hilt
        have hsz : (txAt Wd i).size ≤ maxLen := by
          have := HWS.out (txAt Wd i) (by rw [txAt_get hilt]; exact List.getElem_mem _)
          unfold maxLen; omega
        have HNX := hideB2 (hopTo_next Wd i hilt)
        have hML : (hopTo (Wd.take i)).length ≤ 10000 := by
          have := hopTo_len (Wd.take i)
          rw [List.length_take] at this; omega
        have HKR := hideB2 (fun W (h : Below wr.heap.size wr W) => show W.cell? ⟨b, i, none⟩ = some (.string (txAt Wd i)) from (hr.keep h).cell i hilt)
        have HS := hideB2 hs
        clear hr hs hilt
        generalize txAt Wd i = x at *
        cases htok : tokB x
        · have HE := hideB2 (show hopTo (Wd.take (i + 1)) = hopTo (Wd.take i) by rw [HNX.out]; unfold hopStep; rw [htok]; rfl)
          have HT := hideB2 htok
          clear htok
          go_wp2_with (go_at_call 32; refine (sToken_any x _ hsz).mono ?_; rintro e w4 ⟨rfl, rfl⟩; rw [HT.out])
          exact ⟨⟨i + 1, by omega, by go_num, by rw [HE.out]; exact hbuf, HS.out⟩, by simp [intOf]; omega⟩
        · have HE := hideB2 (show hopTo (Wd.take (i + 1)) = putM (hopTo (Wd.take i)) (foldB x) by rw [HNX.out]; unfold hopStep; rw [htok]; rfl)
          have HT := hideB2 htok
          clear htok
          generalize hopTo (Wd.take i) = M at *
          go_wp2_with (first
            | (go_at_call 32; refine (sToken_any x _ hsz).mono ?_; rintro e w4 ⟨rfl, rfl⟩; rw [HT.out])
            | (go_at_call 34; refine (sFold_any x _ hsz).mono ?_; rintro e w5 ⟨rfl, hb5⟩; have hbuf5 := hbuf.later hb5; have hs5 := HS.out.later hb5; generalize foldB x = fx at *))
          refine (l5put_any w _ M fx _ hbuf5 hML).mono ?_
          rintro e w6 ⟨v6, rfl, hbuf6, hb6⟩
          have HBF := hideB2 hbuf6
          have HS6 := hideB2 (hs5.later hb6)
          clear hbuf6 hb6 hs5 hbuf5 hbuf
          go_wp2
          exact ⟨⟨i + 1, by omega, by go_num, by rw [HE.out]; exact HBF.out, HS6.out⟩, by simp [intOf]; omega⟩
      · obtain rfl : i = m := by omega
        have HE := hideB2 (show Wd.take i = Wd from List.take_of_length_le (by rw [HM.out]; exact Nat.le_refl _))
        rw [HE.out, ← HF.out] at hbuf
        clear hs HE
        go_wp2
        go_ret
        exact ⟨_, rfl, hbuf⟩
theorem own_block {w : World} {base : Nat} {e : TypeId} {size : Nat} {v : Value} {n : Nat} {xs : List Value} (h : w.ownsRow base e size v n xs) {g : Nat} (hg : v.ownBlock = some g) : ∃ cur, w.heap[g]? = some (.cells cur e (0, 0)) := by
  rcases h.2 with ⟨h1, _⟩ | ⟨g', cap, cur, h1, _, hh, _⟩
  · rw [h1] at hg; cases hg
  · rw [h1] at hg
    injection hg with hg
    subst hg
    exact ⟨cur, hh⟩
/-- A row of texts stays where a row of fields is put behind. -/
theorem BufS.past {w0 W W' : World} {vt vf : Value} {N : List ByteArray} {L : List Fd} (h : BufS w0 W vt N) (k : BufF w0 W vf L) (hg : W.grownBy W' vf.ownBlock) (hb : Below w0.heap.size w0 W') : BufS w0 W' vt N := by
  refine ⟨hb, h.own.kept hg ?_⟩
  cases hv : vt.ownBlock with
  | none => exact .inl rfl
  | some g =>
    refine .inr fun e => ?_
    obtain ⟨c1, h1⟩ := own_block h.own hv
    obtain ⟨c2, h2⟩ := own_block k.own e.symm
    rw [h1] at h2
    injection h2 with h2
    injection h2 with _ h2
    exact absurd h2 (by decide)
theorem e2eL_hop {l : List Fd} (h : fieldsQ l = true) : e2eL l = elseL l (hopL l) := by unfold e2eL; rw [if_pos h]
theorem hopL_pos {l : List Fd} (h : fieldsQ l = true) : 0 < (hopL l).length := by unfold hopL; rw [if_pos h]; exact hopTo_pos _
theorem hopL_nil {l : List Fd} (h : fieldsQ l = false) : hopL l = [] := by unfold hopL; rw [h]; rfl
end Go.Proofs.YtmhohponikolfaaGreatDoor
namespace Go.Proofs.YtmhohponikolfaaGreatDoor
set_option linter.unusedVariables false
set_option linter.unusedSimpArgs false
open Go.RowKit
theorem low8_twice (b : UInt8) : low8 (low8 b) = low8 b := by
  apply UInt8.toNat_inj.1
  have h1 := low8_toNat (low8 b)
  have h2 := low8_toNat b
  have h3 : lowI (lowI (b.toNat : Int)) = lowI (b.toNat : Int) := by
    unfold lowI
    by_cases h : 65 ≤ (b.toNat : Int) ∧ (b.toNat : Int) ≤ 90
    · rw [if_pos h, if_neg (by omega)]
    · rw [if_neg h, if_neg h]
  rw [h2, h3, ← h2] at h1
  omega
theorem foldB_twice (s : ByteArray) : foldB (foldB s) = foldB s := by
  apply bytes_ext
  show ((s.data.toList.map low8).map low8) = s.data.toList.map low8
  rw [List.map_map]
  exact List.map_congr_left fun b _ => low8_twice b
theorem hopTo_base (W : List ByteArray) : ∀ t ∈ base7, t ∈ hopTo W := by
  unfold hopTo
  have : ∀ (W M : List ByteArray), (∀ t ∈ base7, t ∈ M) → ∀ t ∈ base7, t ∈ W.foldl hopStep M := by
    intro W
    induction W with
    | nil => intro M h; exact h
    | cons s W ih =>
      intro M h
      refine ih _ (fun t ht => ?_)
      unfold hopStep
      split
      · exact (mem_putM _ _ _).2 (.inr (h t ht))
      · exact h t ht
  exact this W base7 (fun t ht => ht)
theorem base7_fold : ∀ t ∈ base7, foldB t = t := by unfold base7 cnB; decide
theorem hopTo_fold (W : List ByteArray) : ∀ t ∈ hopTo W, foldB t = t := by
  unfold hopTo
  have : ∀ (W M : List ByteArray), (∀ t ∈ M, foldB t = t) → ∀ t ∈ W.foldl hopStep M, foldB t = t := by
    intro W
    induction W with
    | nil => intro M h; exact h
    | cons s W ih =>
      intro M h
      refine ih _ (fun t ht => ?_)
      unfold hopStep at ht
      split at ht
      · rcases (mem_putM _ _ _).1 ht with rfl | ht
        · exact foldB_twice s
        · exact h t ht
      · exact h t ht
  exact this W base7 base7_fold
theorem hopL_fold (l : List Fd) : ∀ t ∈ hopL l, foldB t = t := by
  unfold hopL
  split
  · exact hopTo_fold _
  · intro t ht; simp at ht
theorem hopTo_none : hopTo (elsB (joinB [])) = base7 := by kernel_rfl
theorem elseL_all {l : List Fd} {N : List ByteArray} (h : ∀ x ∈ l, inNl N (foldB x.1) = false) : elseL l N = l := by
  unfold elseL
  rw [List.filter_eq_self]
  intro x hx; rw [h x hx]; rfl
/-- What goes from end to end goes so again. -/
theorem e2eL_twice (l : List Fd) : e2eL (e2eL l) = e2eL l := by
  cases hq : fieldsQ l
  · have h0 : e2eL l = [] := by unfold e2eL; rw [hq]; rfl
    rw [h0]
    unfold e2eL
    split
    · rfl
    · rfl
  · have hX := e2eL_hop hq
    rw [hX]
    have hN : hopL l = hopTo (hopW l) := by unfold hopL; rw [if_pos hq]
    have hnot : ∀ x ∈ elseL l (hopL l), inNl (hopL l) (foldB x.1) = false := by
      intro x hx
      have := (List.mem_filter.1 hx).2
      simpa using this
    have hqX : fieldsQ (elseL l (hopL l)) = true := by
      obtain ⟨h1, h2⟩ := fieldsQ_iff.1 hq
      exact fieldsQ_iff.2 ⟨Nat.le_trans (elseL_len _ _) h1, fun x hx => h2 x (List.mem_filter.1 hx).1⟩
    have hb : ∀ x ∈ elseL l (hopL l), foldB x.1 ∉ base7 := by
      intro x hx hm
      have := hopTo_base (hopW l) _ hm
      rw [← hN] at this
      have h2 := hnot x hx
      rw [inNl_iff.2 this] at h2; cases h2
    generalize elseL l (hopL l) = X at *
    have hv : valuesL X cnB = [] := by
      unfold valuesL valsOf
      rw [if_pos hqX, List.map_eq_nil_iff, List.filter_eq_nil_iff]
      intro x hx hn
      have hn := eqB_iff.1 hn
      refine hb x hx ?_
      rw [hn, base7_fold cnB (by unfold base7; simp)]
      unfold base7; simp
    have hh : hopL X = base7 := by
      unfold hopL hopW
      rw [if_pos hqX, hv, hopTo_none]
    rw [e2eL_hop hqX, hh]
    refine elseL_all fun x hx => ?_
    cases hi : inNl base7 (foldB x.1) with
    | false => rfl
    | true => exact absurd (inNl_iff.1 hi) (hb x hx)
theorem elseL_at (l : List Fd) (N : List ByteArray) (i : Nat) (hi : i < l.length) (h : inNl N (foldB (fdAt l i).1) = false) : (elseL (l.take i) N).length < (elseL l N).length ∧ fdAt (elseL l N) (elseL (l.take i) N).length = fdAt l i := by
  have e : elseL l N = elseL (l.take i) N ++ fdAt l i :: elseL (l.drop (i + 1)) N := by
    have h1 : l = l.take i ++ fdAt l i :: l.drop (i + 1) := by
      rw [fdAt_get hi]
      simp
    conv => lhs; rw [h1]
    unfold elseL
    rw [List.filter_append, List.filter_cons_of_pos (by rw [h]; rfl)]
  refine ⟨by rw [e]; simp, ?_⟩
  rw [e]
  unfold fdAt
  simp
theorem inNl_next (N : List ByteArray) (s : ByteArray) (k : Nat) (h : k < N.length) : inNl (N.take (k + 1)) s = (inNl (N.take k) s || eqB s (txAt N k)) := by
  unfold inNl
  rw [List.take_succ_eq_append_getElem h, List.any_append, txAt_get h]
  unfold eqB
  rw [ByteArray.toList_eq, ByteArray.toList_eq]; simp
theorem fields_eq (d s : ByteArray) : (d.toList == d.toList) = true ∧ (s.toList == s.toList) = true := by simp
set_option maxHeartbeats 1000000 in
theorem sameFields_same (va vb : Value) (l : List Fd) (w : World) (ha : SlF w va l) (hb : SlF w vb l) (hm : l.length ≤ 1048576) :
    Calls Tryz.prog 12 #[va, vb] w fun e w' => e = .returned (.bool true) ∧ Below w.heap.size w w' := by
  obtain ⟨a1, c1, rfl⟩ := ha.form
  obtain ⟨a2, c2, rfl⟩ := hb.form
  have HA := hideB2 ha
  have HB := hideB2 hb
  clear ha hb
  generalize hn : l.length = n at *
  have HN := hideB2 hn
  clear hn
  have heq : ((n : Int) == (n : Int)) = true := by simp
  go_enter Tryz.func12, Tryz.ntmps12
  go_wp2
  go_loopw [5] (fun i wr => ∃ k : Nat, k ≤ n ∧ i = .int .i64 (k : Int) ∧ Below w.heap.size w wr) (fun i _ => n - (intOf i).toNat)
  case atStart => exact ⟨0, Nat.zero_le _, rfl, Below.refl _ _⟩
  case round =>
    obtain ⟨k, hk, rfl, hbw⟩ := hrel
    by_cases hlt : k < n
    · have hI : (k : Int) < (n : Int) := by omega
      obtain ⟨b1, rfl, hr1⟩ := HA.out.row (by rw [HN.out]; omega)
      obtain ⟨b2, rfl, hr2⟩ := HB.out.row (by rw [HN.out]; omega)
      have p0 := (hr1.keep hbw).dat k (by rw [HN.out]; exact hlt)
      have p1 := (hr1.keep hbw).saf k (by rw [HN.out]; exact hlt)
      have q0 := (hr2.keep hbw).dat k (by rw [HN.out]; exact hlt)
      have q1 := (hr2.keep hbw).saf k (by rw [HN.out]; exact hlt)
      clear hr1 hr2
      generalize fdAt l k = x at *
      obtain ⟨d, s⟩ := x
      simp only at p0 p1 q0 q1
      obtain ⟨hdd, hss⟩ := fields_eq d s
      have HBW := hideB2 hbw
      clear hbw
      go_wp2
      go_quiet (fail)
      go_wp2
      go_round
      case rel => exact ⟨k + 1, by omega, by go_num, Below.drewNs HBW.out _⟩
      case measure => simp [intOf]; omega
    · have hd : decide ((k : Int) < (n : Int)) = false := by simp; omega
      go_wp2
      go_ret
      exact ⟨rfl, hbw⟩
set_option maxHeartbeats 1000000 in
theorem DrawEndToEnd_any (a : Option Addr) (len cap : Nat) (w : World) (hc : Code w a len) :
    Calls Tryz.prog 8 #[.slice a len cap] w fun e w' => ∃ v l, e = .returned v ∧ l.length ≤ 21 ∧ Short l ∧ BufF w w' v l := by
  go_enter Tryz.func8, Tryz.ntmps8
  go_wp2_with fail
  refine (l1New_any a len cap _ hc.row hc.max).mono ?_
  rintro e w1 ⟨rfl, hb1, hd1⟩
  go_wp2_with fail
  refine (l5bent_any _ _ hd1).mono ?_
  rintro e w2 ⟨v, l, rfl, hl, hsh, hbuf⟩
  have HR : Hid (BufF w w2 v l) := by
    refine ⟨hb1.trans (hbuf.kp.below (Nat.le_refl _) (Nat.le_of_lt hd1.lt)), hbuf.own.1, ?_⟩
    rcases hbuf.own.2 with h2 | ⟨g, cap, cur, h1, hg, r⟩
    · exact .inl h2
    · exact .inr ⟨g, cap, cur, h1, Nat.le_trans hb1.size hg, r⟩
  clear hbuf hd1 hb1 hc
  go_wp2
  go_ret
  exact ⟨_, _, rfl, hl, hsh, HR.out⟩
end Go.Proofs.YtmhohponikolfaaGreatDoor
namespace Go.Proofs.YtmhohponikolfaaGreatDoor
set_option linter.unusedVariables false
set_option linter.unusedSimpArgs false
open Go.ChangeShapes Go.WideShapes Go.ChangeAt Go.RowKit
open Go.ChangeMaps (open_string shut_string)
theorem Tryz.own : ownKnob Tryz.prog.godebug = none := by kernel_rfl
theorem Tryz.laidOut : laidOutB Tryz.prog = true := by kernel_rfl
/-- What the walk is told of a slice of integers that came in: it is nil; or it leads to a row of 'cap' cells, the numbers 'zs' (the first 'len' are its elements, the rest its spare room), each fitting its kind. -/
def IsRow (k : IntKind) (w : World) (a : Option Addr) (len cap : Nat) (zs : List Int) : Prop :=
  (a = none ∧ len = 0 ∧ cap = 0 ∧ zs = []) ∨
  ∃ x, a = some x ∧ len ≤ cap ∧ cap ≤ maxLen ∧ zs.length = cap ∧ (∀ i, i < zs.length → w.cell? (x.add i) = some (.int k (zs.getD i 0))) ∧ ∀ n ∈ zs, (Lit.int k n).wf = true

end Go.Proofs.YtmhohponikolfaaGreatDoor
namespace Go.Proofs.YtmhohponikolfaaGreatDoor
set_option linter.unusedVariables false
set_option linter.unusedSimpArgs false
open Go.ChangeShapes Go.WideShapes Go.ChangeAt Go.RowKit
theorem code_of {w : World} {a : Option Addr} {len cap : Nat} {zs : List Int} (h : IsRow .u8 w a len cap zs) : Code w a len := by
  rcases h with ⟨rfl, rfl, rfl, rfl⟩ | ⟨x, rfl, hl, hm, hz, hcell, hwf⟩
  · exact ⟨Or.inl rfl, by unfold maxLen; omega⟩
  · refine ⟨?_, Nat.le_trans hl hm⟩
    by_cases h0 : len = 0
    · exact Or.inl h0
    · right
      obtain ⟨b, off, spot⟩ := x
      have hc := hcell 0 (by omega)
      have hspot : spot = none := by simpa [Addr.add] using World.cell?_spot hc
      subst hspot
      refine ⟨b, off, rfl, ?_, fun i hi => ?_⟩
      · have := World.block_lt_of_cell? _ _ hc
        simpa [Addr.add] using this
      · have hci := hcell i (by omega)
        rw [Addr.add_lit] at hci
        have hmem : zs.getD i 0 ∈ zs := by
          have hi' : i < zs.length := by omega
          rw [List.getD, List.getElem?_eq_getElem hi']
          exact List.getElem_mem hi'
        have hb := bounds_u8 (hwf _ hmem)
        exact ⟨(zs.getD i 0).toNat, by omega, by rw [hci]; congr 2; omega⟩
end Go.Proofs.YtmhohponikolfaaGreatDoor
namespace Go.Proofs.YtmhohponikolfaaGreatDoor
set_option linter.unusedVariables false
set_option linter.unusedSimpArgs false
open Go.ChangeShapes Go.WideShapes Go.ChangeAt Go.RowKit

/-- A block's cells, laid anew. -/
def laidRow (cs : Array Value) : Obj → Obj
  | .cells _ t frozen => .cells cs t frozen
  | o => o
theorem laid_mem {P : Program} {w : World} : ∀ {l : List (String × DataW Unit)} {ps : List MemPlace}, DataW.LaidVars P w l ps → ∀ (n : String) (d : DataW Unit), (n, d) ∈ l →
    ∃ g t cs fuel p, P.globalNamed n = some g ∧ (P.globals[g]?).map (·.type) = some t ∧ w.var? P n = some cs ∧ DataW.trod (fun _ => ()) P w 0 (fun _ => true) false fuel t cs.toList = some (d, p)
  | [], _, _, n, d, hm => by simp at hm
  | (n0, d0) :: r, ps, h, n, d, hm => by
    obtain ⟨g, t, cs, fuel, p, q, h1, h2, h3, h4, h5, _⟩ := h
    rcases List.mem_cons.1 hm with e | e
    · cases e
      exact ⟨g, t, cs, fuel, p, h1, h2, h3, h4⟩
    · exact laid_mem h5 n d e
end Go.Proofs.YtmhohponikolfaaGreatDoor
namespace Go.Proofs.YtmhohponikolfaaGreatDoor
set_option linter.unusedVariables false
set_option linter.unusedSimpArgs false
open Go.ChangeShapes Go.WideShapes Go.ChangeAt Go.RowKit
/-- A table of texts as a row lists it, and what its cells hold. -/
def stabData {H : Type} (zs : List (List UInt8)) : DataW H := .agg (zs.map fun z => .lit (.string z))
theorem cells_of_stab {H : Type} {enc : TypeId × Value → H} {P : Program} {w : World} {base : Nat} {sp : Nat → Bool} {held : Bool} {fuel : Nat} {t e : TypeId} {n : Nat} {cs : List Value} {zs : List (List UInt8)} {p : List MemPlace}
    (ht : P.underlying t = some (.array n e)) (he : P.underlying e = some .string) (hce : P.cellsOf e = 1) (hct : P.cellsOf t = n)
    (h : DataW.trod enc P w base sp held fuel t cs = some (stabData zs, p)) : cs = zs.map fun z => Value.string ⟨z.toArray⟩ := by
  cases fuel with
  | zero => simp [DataW.trod] at h
  | succ fuel =>
    simp only [DataW.trod, ht, hce, hct, Nat.mul_one] at h
    split at h
    · rename_i hl
      obtain ⟨xs, hm, hx⟩ := Option.map_eq_some_iff.1 h
      have hxs : xs.map (·.1) = zs.map fun z => (DataW.lit (.string z) : DataW H) := by
        have := congrArg Prod.fst hx
        simpa [stabData] using this
      have hxl : xs.length = n := by simpa using Lib.mapM_length hm
      have hzl : zs.length = n := by
        have := congrArg List.length hxs
        simp at this
        omega
      apply List.ext_getElem?
      intro i
      by_cases hi : i < n
      · obtain ⟨b, hb, hf⟩ := Lib.mapM_at hm i i (by simp [hi])
        obtain ⟨z, hc, rfl, _⟩ := DataW.trod_string he hf
        have h1 : cs[i]? = some (.string z) := by
          have := congrArg (·[0]?) hc
          simpa [List.getElem?_take, List.getElem?_drop] using this
        have h2 : (xs.map (·.1))[i]? = some (DataW.lit (.string z.data.toList) : DataW H) := by simp [hb]
        rw [hxs] at h2
        simp only [List.getElem?_map, Option.map_eq_some_iff, DataW.lit.injEq, Lit.string.injEq] at h2
        obtain ⟨z', hz', rfl⟩ := h2
        simp [h1, hz']
      · rw [List.getElem?_eq_none (by omega), List.getElem?_eq_none (by simp; omega)]
    · cases h
theorem trodVars_one' {H : Type} {enc : TypeId × Value → H} {P : Program} {w : World} {sp : Nat → Bool} {n : String} : ∀ {gs : List (DataW H)} {ps : List MemPlace}, DataW.TrodVars enc P w sp [n] gs ps → ∃ a, gs = [a]
  | [a], _, _ => ⟨a, rfl⟩
  | [], _, h => h.elim
  | _ :: _ :: _, _, h => by obtain ⟨_, _, _, _, _, _, _, _, _, _, h, _⟩ := h; exact h.elim
theorem stab_of_laid {P : Program} {W : World} {l : List (String × DataW Unit)} {n : String} {zs : List (List UInt8)} {g : Nat} {t e : TypeId} {c : Nat} (hm : (n, stabData zs) ∈ l) (h : laidMet P l W)
    (hg : P.globalNamed n = some g) (ht : (P.globals[g]?).map (·.type) = some t) (ha : P.underlying t = some (.array c e)) (he : P.underlying e = some .string) (hce : P.cellsOf e = 1) (hct : P.cellsOf t = c) (i : Nat) (hi : i < zs.length) :
    W.cell? ⟨g, i, none⟩ = some (.string ⟨(zs.getD i []).toArray⟩) := by
  obtain ⟨ps, hl, _⟩ := h
  obtain ⟨g', t', cs, fuel, p, h1, h2, h3, h4⟩ := laid_mem hl _ _ hm
  obtain rfl := Option.some.inj (hg.symm.trans h1)
  obtain rfl := Option.some.inj (ht.symm.trans h2)
  have hc := cells_of_stab ha he hce hct h4
  have := World.var?_cell hg h3 i
  rw [this, ← Array.getElem?_toList, hc]
  simp [List.getD, hi]
theorem hops_of_laid {W : World} {l : List (String × DataW Unit)} (h0 : ("loop.example/g00651/impl.fixedHopNames", Rows.laid_loop_example_g00651_impl_fixedHopNames) ∈ l) (h : laidMet Tryz.prog l W) : Hops W := by
  have key : ∀ k, k < 7 → W.cell? ⟨0, k, none⟩ = some (.string (txAt base7 k)) := by
    intro k hk
    have := stab_of_laid (g := 0) (t := 76) (zs := [[99, 111, 110, 110, 101, 99, 116, 105, 111, 110], [107, 101, 101, 112, 45, 97, 108, 105, 118, 101], [112, 114, 111, 120, 121, 45, 99, 111, 110, 110, 101, 99, 116, 105, 111, 110], [116, 101], [116, 114, 97, 105, 108, 101, 114], [116, 114, 97, 110, 115, 102, 101, 114, 45, 101, 110, 99, 111, 100, 105, 110, 103], [117, 112, 103, 114, 97, 100, 101]]) h0 h
      (by kernel_rfl) (by kernel_rfl) Tryz.underlying76 Tryz.underlying9 (by kernel_rfl) (by kernel_rfl) k hk
    rw [this]
    have hk7 : k = 0 ∨ k = 1 ∨ k = 2 ∨ k = 3 ∨ k = 4 ∨ k = 5 ∨ k = 6 := by omega
    rcases hk7 with rfl | rfl | rfl | rfl | rfl | rfl | rfl <;> rfl
  refine ⟨key, ?_⟩
  exact World.block_lt_of_cell? _ _ (key 0 (by omega))
end Go.Proofs.YtmhohponikolfaaGreatDoor
