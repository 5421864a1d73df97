/-
  The drawing functions of chapter 5: lists of fields, bent or not.
-/
import Derived.Test.YtbdggopdhnlbfaaDoorF20
import Derived.Test.YtbdggopdhnlbfaaDoorF6
namespace Go.Proofs.YtbdggopdhnlbfaaDoor
set_option linter.unusedVariables false
set_option linter.unusedSimpArgs false
open Go.RowKit
/-- A row of fields that grows while numbers are drawn. -/
structure DBufF (p : Nat) (w0 w : World) (v : Value) (l : List Fd) : Prop where
  kp : Kp p w0 w
  own : w.ownsRow w0.heap.size 49 2 v l.length (cellsF l)
  st : Drw w p
  lt : p < w0.heap.size
theorem DBufF.start {p : Nat} {w : World} (h : Drw w p) : DBufF p w w (.slice none 0 0) [] := ⟨Kp.refl _ _, World.ownsRow_nil _ _ _ _, h, h.lt⟩
theorem DBufF.draw {p : Nat} {w0 w w' : World} {v : Value} {l : List Fd} (h : DBufF p w0 w v l) (hk : Kp p w w') (hd : Drw w' p) : DBufF p w0 w' v l := by
  refine ⟨h.kp.trans hk, h.own.kept hk ?_, hd, h.lt⟩
  cases hv : v.ownBlock with
  | none => exact Or.inl rfl
  | some g =>
    right
    intro e
    injection e with e
    have := (h.own.lt g hv).1
    have := h.lt
    omega
theorem DBufF.form {p : Nat} {w0 w : World} {v : Value} {l : List Fd} (h : DBufF p w0 w v l) : ∃ (a : Option Addr) (c : Nat), v = .slice a l.length c := by
  rcases h.own.2 with ⟨h1, h2⟩ | ⟨g, cap, cur, h1, _⟩
  · exact ⟨none, 0, by rw [h1, h2]⟩
  · exact ⟨_, _, h1⟩
theorem wp_dfapp {ops : Array Oper} {rest : List Oper} {o : Oper} {a : Act} {Q : Exit → Act → World → Prop} {p : Nat} {w0 W : World} (hgd : o.guard = none) (s x : Operand)
    (ho : o.op = .call { callee := .builtin .append, args := #[s, x], argTypes := #[55, 55] }) (v : Value) (l : List Fd) (hs : a.eval s = v) (hbuf : DBufF p w0 W v l)
    (d t : ByteArray) (hx : a.eval x = .slice (some ⟨W.heap.size, 0, none⟩) 1 1) (hlen : l.length ≤ 1000)
    (h : ∀ v' W', DBufF p w0 W' v' (l ++ [(d, t)]) → wpList Tryd.prog ops Q rest (a.put o.dst v') W') :
    wpList Tryd.prog ops Q (o :: rest) a (W.alloc (.cells #[.string d, .string t] 49)) := by
  obtain ⟨i0, hi, hz0, hz1, hz2⟩ := info_parts Tryd.infoF
  have hsz := hbuf.kp.size
  refine wpList_append_own _ hgd s x 55 ho w0.heap.size 49 i0 _ 2 32 Tryd.underlying55 hi hz0 hz1 hz2 rfl (by decide) v l.length (cellsF l) hs (hbuf.own.alloc _) ⟨W.heap.size, 0, none⟩ 1 1 (cellsF [(d, t)]) hx (by rw [cellsF_len]; rfl) ?_ (cellsF_one _) (by unfold maxLen; omega) (by omega) (by simp; omega) ?_
  · intro j u hu
    have hj : j < 2 := by have := (List.getElem?_eq_some_iff.1 hu).1; rwa [cellsF_len] at this
    rw [Addr.add_lit, Nat.zero_add, (Blk.new W _ _).cell j, ← hu]
    rcases j with _ | _ | j
    · rfl
    · rfl
    · omega
  intro v' W' hown hgrow _
  have hne : ∀ k, v.ownBlock = some k → w0.heap.size ≤ k := fun k hk => (hbuf.own.lt k hk).1
  have hlt := hbuf.lt
  have hstlt := hbuf.st.lt
  refine h v' W' ⟨?_, ?_, ?_, hlt⟩
  · refine ⟨hgrow.os.trans (hbuf.kp.alloc _).os, hgrow.tape.trans (hbuf.kp.alloc _).tape, hgrow.output.trans (hbuf.kp.alloc _).output, Nat.le_trans (hbuf.kp.alloc _).size hgrow.size, fun k hk hkne => ?_⟩
    refine (hgrow.block k ?_ ?_).trans ((hbuf.kp.alloc _).block k hk hkne)
    · simp; omega
    · intro e; have := hne k e.symm; omega
  · rw [List.length_append, List.length_singleton, cellsF_app]
    exact hown
  · obtain ⟨a1, len, cap, i, hh, h1, h2, h3⟩ := hbuf.st
    have old : ∀ k, k < w0.heap.size → W'.heap[k]? = W.heap[k]? := by
      intro k hk
      rw [hgrow.block k (by simp; omega) (fun e => by have := hne k e.symm; omega)]
      exact Below.heap_alloc _ _ _ (by omega)
    exact ⟨a1, len, cap, i, hh, (old p hlt).trans h1, h2.kept (fun k hk => old k (by omega)), h3⟩
def slLen : Value → Nat
  | .slice _ n _ => n
  | _ => 0
/-- Names and values are short. -/
def Short (l : List Fd) : Prop := ∀ x ∈ l, x.1.size ≤ 100 ∧ x.2.size ≤ 100
theorem Short.snoc {l : List Fd} (h : Short l) {d s : ByteArray} (hd : d.size ≤ 100) (hs : s.size ≤ 100) : Short (l ++ [(d, s)]) := by
  intro x hx
  rcases List.mem_append.1 hx with hx | hx
  · exact h x hx
  · simp at hx; subst hx; exact ⟨hd, hs⟩
theorem short_tot {l : List Fd} (h : Short l) (hl : l.length ≤ 100) : totF l ≤ 1099511627776 := by
  have : ∀ m : List Fd, Short m → totF m ≤ m.length * 200 := by
    intro m
    induction m with
    | nil => intro _; simp [totF]
    | cons x m ih =>
      intro hs
      have h1 := hs x (by simp)
      have h2 := ih (fun y hy => hs y (by simp [hy]))
      have e : totF (x :: m) = szF x + totF m := by simp [totF]
      rw [e, List.length_cons, Nat.add_mul]
      simp only [szF]; omega
  have h1 := this l h
  have h2 : l.length * 200 ≤ 100 * 200 := Nat.mul_le_mul_right _ hl
  omega
set_option maxRecDepth 10000 in
set_option maxHeartbeats 4000000 in
theorem l5list_any (p : Nat) (w : World) (hd : Drw w p) :
    Calls Tryd.prog 97 #[.pointer (some ⟨p, 0, none⟩)] w fun e w' => ∃ v l, e = .returned v ∧ l.length ≤ 21 ∧ (∀ x ∈ l, x.1.size ≤ 40 ∧ x.2.size ≤ 40) ∧ DBufF p w w' v l := by
  go_enter Tryd.func97, Tryd.ntmps97
  go_wp2_with fail
  refine (l1Below_any p 7 _ hd (by omega)).mono ?_
  rintro e w1 ⟨⟨n, hn, _, _, rfl⟩, hk1, hd1⟩
  have hn7 : n < 7 := by have := hn (by omega); omega
  have HB0 := hideB2 ((DBufF.start hd).draw hk1 hd1)
  clear hn hk1 hd1 hd
  go_wp2
  go_loopw [3, 4] (fun o i wr => ∃ (k : Nat) (l : List Fd), i = .int .i64 k ∧ l.length + k ≤ 6 ∧ (∀ x ∈ l, x.1.size ≤ 40 ∧ x.2.size ≤ 40) ∧ DBufF p w wr o l) (fun _ i _ => (intOf i).toNat)
  case atStart => exact ⟨n, [], rfl, by simp; omega, fun x hx => by simp at hx, HB0.out⟩
  case round =>
    obtain ⟨k, l, rfl, hl, hsh, hbuf⟩ := hrel
    clear HB0
    have HSH := hideB2 hsh
    by_cases hk0 : 0 < k
    · obtain ⟨j, rfl⟩ : ∃ j, k = j + 1 := ⟨k - 1, by omega⟩
      have h1 : (0 : Int) < ((j + 1 : Nat) : Int) := by omega
      have e1 : IntKind.i64.wrap (((j + 1 : Nat) : Int) - 1) = (j : Int) := by rw [IntKind.wrap_i64]; omega
      clear hsh
      go_wp2_with (first | (go_at_call 75; refine (l5field_any p _ hbuf.st).mono ?_; rintro e w2 ⟨⟨d, s, hds, hss, rfl⟩, hk2, hd2⟩; have hbuf2 := hbuf.draw hk2 hd2) | (at_builtin; refine wp_dfapp rfl (.tmp 11) (.tmp 14) rfl _ _ rfl hbuf2 d s rfl (by omega) ?_; intro v3 W3 hbuf3))
      refine ⟨⟨j, l ++ [(d, s)], by go_num, by simp; omega, ?_, hbuf3⟩, by simp [intOf]⟩
      intro x hx
      rcases List.mem_append.1 hx with hx | hx
      · exact HSH.out x hx
      · simp at hx; subst hx; exact ⟨by simp only; omega, by simp only; omega⟩
    · have h1 : ¬ (0 : Int) < (k : Int) := by omega
      clear hsh
      go_wp2_with fail
      refine (l1Once_any p 12 _ hbuf.st (by omega)).mono ?_
      rintro e w2 ⟨⟨b2, rfl⟩, hk2, hd2⟩
      have hbuf2 := hbuf.draw hk2 hd2
      clear hbuf hk2 hd2 h1
      cases b2
      · go_wp2
        go_ret
        exact ⟨_, l, rfl, by omega, HSH.out, hbuf2⟩
      · have HB2 := hideB2 hbuf2
        clear hbuf2
        go_wp2
        go_loopw [3] (fun o wq => ∃ (m : List Fd), m.length ≤ 21 ∧ (∀ x ∈ m, x.1.size ≤ 40 ∧ x.2.size ≤ 40) ∧ DBufF p w wq o m) (fun o _ => 22 - slLen o)
        case atStart => exact ⟨l, by omega, HSH.out, HB2.out⟩
        case round =>
          obtain ⟨m, hm, hsh, hbuf⟩ := hrel
          have HSM := hideB2 hsh
          obtain ⟨ao, co, rfl⟩ := hbuf.form
          clear hsh HB2 HSH
          go_wp2_with fail
          refine (l1Below_any p 2 _ hbuf.st (by omega)).mono ?_
          rintro e w3 ⟨⟨u, hu, _, _, rfl⟩, hk3, hd3⟩
          have hu2 : u < 2 := by have := hu (by omega); omega
          have hbuf3 := hbuf.draw hk3 hd3
          have e1 : IntKind.i64.wrap (20 + (u : Int)) = 20 + (u : Int) := by rw [IntKind.wrap_i64]; omega
          clear hbuf hk3 hd3 hu
          by_cases hlt : (m.length : Int) < 20 + (u : Int)
          · go_wp2_with (at_builtin; refine wp_dfapp rfl (.tmp 24) (.tmp 26) rfl _ _ rfl hbuf3 ⟨#[70]⟩ ⟨#[]⟩ rfl (by omega) ?_; intro v4 W4 hbuf4)
            obtain ⟨a4, c4, rfl⟩ := hbuf4.form
            refine ⟨⟨m ++ [(⟨#[70]⟩, ⟨#[]⟩)], by simp; omega, ?_, hbuf4⟩, by simp [slLen]; omega⟩
            intro x hx
            rcases List.mem_append.1 hx with hx | hx
            · exact HSM.out x hx
            · simp at hx; subst hx; decide
          · go_wp2
            go_ret
            exact ⟨_, m, rfl, hm, HSM.out, hbuf3⟩
theorem cellsF_setN (l : List Fd) (d : ByteArray) : ∀ k, k < l.length → (cellsF l).set (k * 2) (.string d) = cellsF (l.set k (d, (fdAt l k).2)) := by
  induction l with
  | nil => intro k hk; simp at hk
  | cons x l ih =>
    intro k hk
    cases k with
    | zero => rfl
    | succ k =>
      rw [cellsF_cons, List.set_cons_succ, cellsF_cons, show (k + 1) * 2 = k * 2 + 1 + 1 by omega, List.set_cons_succ, List.set_cons_succ, ih k (by simpa using hk)]; rfl
theorem cellsF_setV (l : List Fd) (d : ByteArray) : ∀ k, k < l.length → (cellsF l).set (k * 2 + 1) (.string d) = cellsF (l.set k ((fdAt l k).1, d)) := by
  induction l with
  | nil => intro k hk; simp at hk
  | cons x l ih =>
    intro k hk
    cases k with
    | zero => rfl
    | succ k =>
      have e := ih k (by simpa using hk)
      rw [show (k + 1) * 2 + 1 = k * 2 + 1 + 1 + 1 by omega, cellsF_cons, List.set_cons_succ, List.set_cons_succ, e, List.set_cons_succ, cellsF_cons]; rfl
theorem DBufF.store {p : Nat} {w0 w : World} {g cap : Nat} {l l' : List Fd} (h : DBufF p w0 w (.slice (some ⟨g, 0, none⟩) l.length cap) l) (j : Nat) (y : ByteArray) (hl : l'.length = l.length) (hc : (cellsF l).set j (.string y) = cellsF l') : DBufF p w0 (w.setCell ⟨g, j, none⟩ (.string y)) (.slice (some ⟨g, 0, none⟩) l.length cap) l' := by
  have hg := (h.own.lt g rfl).1
  have hlt := h.lt
  refine ⟨h.kp.setNew hg j _, ?_, h.st.setNew (by omega) j _, h.lt⟩
  rw [hl, ← hc]
  exact (h.own.stored j (.string y)).1
theorem DBufF.at {p : Nat} {w0 w : World} {a : Option Addr} {n cap : Nat} {l : List Fd} (h : DBufF p w0 w (.slice a n cap) l) {k : Nat} (hk : k < l.length) : ∃ g, a = some ⟨g, 0, none⟩ ∧ w0.heap.size ≤ g ∧ w.cell? ⟨g, k * 2, none⟩ = some (.string (fdAt l k).1) ∧ w.cell? ⟨g, k * 2 + 1, none⟩ = some (.string (fdAt l k).2) ∧ w.frozen? ⟨g, k * 2, none⟩ = false ∧ w.frozen? ⟨g, k * 2 + 1, none⟩ = false := by
  have ho := h.own
  rcases h.own.2 with ⟨h1, h2⟩ | ⟨g, cap', cur, h1, hg, hh, _⟩
  · omega
  · injection h1 with e1 e2 e3
    subst e1 e2 e3
    refine ⟨g, rfl, hg, ?_, ?_, ho.frozenAt _, ho.frozenAt _⟩
    · rw [ho.cellAt (k * 2) (by omega)]; exact (cellsF_at l k hk).1
    · rw [ho.cellAt (k * 2 + 1) (by omega)]; exact (cellsF_at l k hk).2
theorem Short.set {l : List Fd} (h : Short l) (k : Nat) {x : Fd} (hx : x.1.size ≤ 100 ∧ x.2.size ≤ 100) : Short (l.set k x) := by
  intro y hy
  rcases List.mem_or_eq_of_mem_set hy with hy | rfl
  · exact h y hy
  · exact hx
theorem short_of {l : List Fd} (h : ∀ x ∈ l, x.1.size ≤ 40 ∧ x.2.size ≤ 40) : Short l := fun x hx => by have := h x hx; omega
set_option maxRecDepth 10000 in
set_option maxHeartbeats 4000000 in
theorem l5bent_any (p : Nat) (w : World) (hd : Drw w p) :
    Calls Tryd.prog 74 #[.pointer (some ⟨p, 0, none⟩)] w fun e w' => ∃ v l, e = .returned v ∧ l.length ≤ 21 ∧ Short l ∧ DBufF p w w' v l := by
  go_enter Tryd.func74, Tryd.ntmps74
  go_wp2_with fail
  refine (l5list_any p _ hd).mono ?_
  rintro e w1 ⟨v, l, rfl, hl, hsh, hbuf⟩
  obtain ⟨a1, c1, rfl⟩ := hbuf.form
  have HSH := hideB2 hsh
  clear hsh hd
  go_wp2_with fail
  refine (l1Once_any p 8 _ hbuf.st (by omega)).mono ?_
  rintro e w2 ⟨⟨b, rfl⟩, hk2, hd2⟩
  have hbuf2 := hbuf.draw hk2 hd2
  clear hbuf hk2 hd2
  cases b
  · go_wp2
    go_ret
    exact ⟨_, l, rfl, hl, short_of HSH.out, hbuf2⟩
  · by_cases h0 : 0 < l.length
    · have h0' : (0 : Int) < (l.length : Int) := by omega
      go_wp2_with fail
      refine (l1Below_any p (l.length : Int) _ hbuf2.st (by omega)).mono ?_
      rintro e w3 ⟨⟨k, hk, _, _, rfl⟩, hk3, hd3⟩
      have hkl : k < l.length := by have := hk (by omega); omega
      have hbuf3 := hbuf2.draw hk3 hd3
      clear hbuf2 hk3 hd3 hk
      have hki : (k : Int) < (l.length : Int) := by omega
      go_wp2_with fail
      refine (l1Below_any p 3 _ hbuf3.st (by omega)).mono ?_
      rintro e w4 ⟨⟨u, hu, _, _, rfl⟩, hk4, hd4⟩
      have hu3 : u < 3 := by have := hu (by omega); omega
      have hbuf4 := hbuf3.draw hk4 hd4
      clear hbuf3 hk4 hd4 hu
      obtain ⟨g, rfl, hg, p0, p1, f0, f1⟩ := hbuf4.at hkl
      have hx := HSH.out (fdAt l k) (by rw [fdAt_get hkl]; exact List.getElem_mem _)
      have HCN := hideB2 (fun d => cellsF_setN l d k hkl)
      have HCV := hideB2 (fun d => cellsF_setV l d k hkl)
      generalize fdAt l k = x at *
      obtain ⟨d, s⟩ := x
      simp only at p0 p1 hx HCN HCV
      have hc : u = 0 ∨ u = 1 ∨ u = 2 := by omega
      rcases hc with rfl | rfl | rfl
      · go_wp2_with fail
        refine (l1bend_any p d _ hbuf4.st (by omega)).mono ?_
        rintro e w5 ⟨⟨t, ht, rfl⟩, hk5, hd5⟩
        have hbuf5 := hbuf4.draw hk5 hd5
        clear p0 p1 f0 f1
        obtain ⟨g', e', _, p0, p1, f0, f1⟩ := hbuf5.at hkl
        cases e'
        have HB := hideB2 (hbuf5.store (k * 2) t (l' := l.set k (t, s)) (by simp) (HCN.out t))
        have HLL := hideB2 (show (l.set k (t, s)).length = l.length by simp)
        have HS2 := hideB2 ((short_of HSH.out).set k (x := (t, s)) (by constructor <;> simp only <;> omega))
        generalize fdAt l k = x at *
        clear hbuf4 hbuf5 hk5 hd5 HCN HCV
        go_wp2
        go_ret
        exact ⟨_, l.set k (t, s), rfl, by rw [HLL.out]; exact hl, HS2.out, HB.out⟩
      · have HB := hideB2 (hbuf4.store (k * 2 + 1) ((⟨#[32]⟩ : ByteArray) ++ s) (l' := l.set k (d, (⟨#[32]⟩ : ByteArray) ++ s)) (by simp) (HCV.out _))
        have HLL := hideB2 (show (l.set k (d, (⟨#[32]⟩ : ByteArray) ++ s)).length = l.length by simp)
        have h33 : (⟨#[32]⟩ ++ s : ByteArray).size ≤ 41 := by
          rw [ByteArray.size_append]
          have : (ByteArray.mk #[32]).size = 1 := rfl
          omega
        have HS2 := hideB2 ((short_of HSH.out).set k (x := (d, (⟨#[32]⟩ : ByteArray) ++ s)) (by constructor <;> simp only <;> omega))
        clear hbuf4 HCN HCV
        go_wp2
        go_ret
        exact ⟨_, _, rfl, Nat.le_trans (Nat.le_of_eq HLL.out) hl, HS2.out, HB.out⟩
      · go_wp2_with fail
        refine (l1bend_any p s _ hbuf4.st (by omega)).mono ?_
        rintro e w5 ⟨⟨t, ht, rfl⟩, hk5, hd5⟩
        have hbuf5 := hbuf4.draw hk5 hd5
        clear p0 p1 f0 f1
        obtain ⟨g', e', _, p0, p1, f0, f1⟩ := hbuf5.at hkl
        cases e'
        have HB := hideB2 (hbuf5.store (k * 2 + 1) t (l' := l.set k (d, t)) (by simp) (HCV.out t))
        have HLL := hideB2 (show (l.set k (d, t)).length = l.length by simp)
        have HS2 := hideB2 ((short_of HSH.out).set k (x := (d, t)) (by constructor <;> simp only <;> omega))
        generalize fdAt l k = x at *
        clear hbuf4 hbuf5 hk5 hd5 HCN HCV
        go_wp2
        go_ret
        exact ⟨_, l.set k (d, t), rfl, by rw [HLL.out]; exact hl, HS2.out, HB.out⟩
    · have h0' : ¬ (0 : Int) < (l.length : Int) := by omega
      go_wp2
      go_ret
      exact ⟨_, l, rfl, hl, short_of HSH.out, hbuf2⟩
end Go.Proofs.YtbdggopdhnlbfaaDoor
