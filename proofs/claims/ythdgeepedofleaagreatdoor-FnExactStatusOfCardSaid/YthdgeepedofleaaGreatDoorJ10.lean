/-
  Chapter 6: the first line of an answer; the specification's side. · Chapter 6: rows of fields of the call's own beside boxes that are stored into (all blocks of the row stand at B or behind). · The walks over chapter 1: spec.TakeLine. · Chapter 6: ReadHead; the specification's side. · Chapter 6: a line cut at its blanks, by the library's own cutting.
-/
import Derived.Test.YthdgeepedofleaaGreatDoorJ9
import Derived.Deep.RegionHeld
import Derived.OwnWalk
import Derived.Laws.OwnMore
import Derived.Test.YthdgeepedofleaaGreatDoorJ3
import Derived.Deep.RegionWith
import Derived.WalkMore
import Derived.Test.YthdgeepedofleaaGreatDoorJ4
import Derived.Test.YthdgeepedofleaaGreatDoorJ2
import Derived.Shelf.Strings.Split
import Derived.Lib.IndexBytes
namespace Go.Proofs.YthdgeepedofleaaGreatDoor
set_option linter.unusedVariables false
set_option linter.unusedSimpArgs false
open Go.RowKit
theorem an_short {s : ByteArray} (h : ¬ 13 ≤ s.size) : anO s = none := by unfold anO; rw [if_neg (by intro h1; exact h h1.1)]
theorem an_ver {s : ByteArray} (h : ¬ s.extract 0 9 = verV) : anO s = none := by unfold anO; rw [if_neg (by intro h1; exact h h1.2.1)]
theorem an_bl {s : ByteArray} (h : ¬ at8 s 12 = 32) : anO s = none := by unfold anO; rw [if_neg (by intro h1; exact h h1.2.2.1)]
theorem no_fl {x y : Fl} (hx : (none : Option Fl) = some x) : x = y := by cases hx
/-- May a status and a reason stand in an answer's line? -/
def stsQ (o : Bool) (n : Int) (r : ByteArray) : Bool := o && decide (200 ≤ n) && decide (n ≤ 599) && decide ((r.size : Int) ≤ 40) && plnB r
theorem ans_sts (n : Int) (r : ByteArray) : ansQ (anM n r) = stsQ true n r := by
  unfold ansQ stsQ stQ anM
  simp only [Bool.true_and]
  rw [show eqB (⟨#[]⟩ : ByteArray) ⟨#[]⟩ = true from eqB_iff.2 rfl]
  simp
theorem an_go {s : ByteArray} (h1 : 13 ≤ s.size) (h2 : s.extract 0 9 = verV) (h3 : at8 s 12 = 32) : anO s = if stsQ (rdecOk (s.extract 9 12)) (rdecN (s.extract 9 12)) (s.extract 13 s.size) = true then some (rdecN (s.extract 9 12), s.extract 13 s.size) else none := by
  unfold anO
  rw [ans_sts]
  cases ho : rdecOk (s.extract 9 12)
  · rw [if_neg (by intro h; exact absurd h.2.2.2.1 (by simp)), if_neg (by unfold stsQ; simp)]
  · cases hq : stsQ true (rdecN (s.extract 9 12)) (s.extract 13 s.size)
    · rw [if_neg (by intro h; exact absurd h.2.2.2.2 (by simp)), if_neg (by simp)]
    · rw [if_pos ⟨h1, h2, h3, rfl, rfl⟩, if_pos rfl]
set_option maxRecDepth 100000 in
set_option maxHeartbeats 4000000 in
theorem l6status_any (s : ByteArray) (w : World) (hs : s.size ≤ 1048576) :
    Calls Tryz.prog 158 #[.string s] w fun e w' => fsPost ((anO s).map fun x => (⟨#[]⟩, ⟨#[]⟩, x.1, x.2)) e ∧ Below w.heap.size w w' := by
  have HB := hideB2 (below_a1 w (.cells #[.string ⟨#[]⟩, .string ⟨#[]⟩, .int .i64 0, .string ⟨#[]⟩, .bool false, .slice none 0 0, .string ⟨#[]⟩] 50))
  have HA := hideB2 (Blk.new w #[.string ⟨#[]⟩, .string ⟨#[]⟩, .int .i64 0, .string ⟨#[]⟩, .bool false, .slice none 0 0, .string ⟨#[]⟩] 50)
  by_cases h13 : (s.size : Int) < 13
  · rw [an_short (by omega)]
    obtain ⟨a0, a1, a2, a3, a4, a5, a6⟩ := HA.out.c7
    obtain ⟨f0, f1, f2, f3, f4, f5, f6⟩ := HA.out.f7
    go_enter Tryz.func158, Tryz.ntmps158
    go_wp2
    refine bodyPost_ret (results_cellT rfl _ _ _ rfl (Blk.new _ _ _) Tryz.underlying50 Tryz.infoMsg) rfl ⟨⟨⟨#[]⟩, ⟨#[]⟩, 0, ⟨#[]⟩, rfl, fun x hx => no_fl hx⟩, below_a1 _ _⟩
  · have d13 : decide ((s.size : Int) < 13) = false := decide_eq_false h13
    have hev := eqB_verV (s := s.extract 0 9)
    have h9 : (9 : Int) ≤ (s.size : Int) := by omega
    have h12 : 12 < s.size := by omega
    have h12i : (12 : Int) < (s.size : Int) := by omega
    have h13i : (13 : Int) ≤ (s.size : Int) := by omega
    by_cases hv : s.extract 0 9 = verV
    · rw [decide_eq_true hv] at hev
      by_cases hb : at8 s 12 = 32
      · have g32 : ((s[12].toNat : Int) != 32) = false := by rw [show s[12] = at8 s 12 from at8_eq s 12 h12, hb]; rfl
        have HX := hideB2 (an_go (by omega) hv hb)
        have HD := hideB2 (fun W => sReadDec_any (s.extract 9 12) W (by rw [ByteArray.size_extract]; unfold maxLen; omega))
        have HPL := hideB2 (fun W => l5plain_any (s.extract 13 s.size) W (by rw [ByteArray.size_extract]; unfold maxLen; omega))
        clear hv hb
        generalize anO s = X at *
        generalize rdecN (s.extract 9 12) = N at *
        generalize rdecOk (s.extract 9 12) = O at *
        go_enter Tryz.func158, Tryz.ntmps158
        go_wp2_with (go_at_call 126; refine (HD.out _).mono ?_; rintro e w2 ⟨rfl, hb2⟩)
        generalize s.extract 13 s.size = R at *
        have hal := below_a1 w2 (.cells #[.string ⟨#[]⟩, .string ⟨#[]⟩, .int .i64 N, .string R, .bool false, .slice none 0 0, .string ⟨#[]⟩] 50)
        have M2 := Blk.new w2 #[.string ⟨#[]⟩, .string ⟨#[]⟩, .int .i64 N, .string R, .bool false, .slice none 0 0, .string ⟨#[]⟩] 50
        have A2 := (HA.out.later hb2).later hal
        have HB2 := hideB2 (below_then (below_then HB.out hb2) hal)
        have hlt2 := (HA.out.later hb2).lt
        generalize hW : w2.alloc (.cells #[.string ⟨#[]⟩, .string ⟨#[]⟩, .int .i64 N, .string R, .bool false, .slice none 0 0, .string ⟨#[]⟩] 50) = W2 at *
        clear hW hal HB HA HD hb2 hev d13 h13 h9 h13i
        generalize w2.heap.size = G at *
        obtain ⟨p0, p1, p2, p3, p4, p5, p6⟩ := M2.c7
        obtain ⟨a0, a1, a2, a3, a4, a5, a6⟩ := A2.c7
        obtain ⟨f0, f1, f2, f3, f4, f5, f6⟩ := A2.f7
        have HA2 := hideB2 A2
        have HFS : Hid (∀ q, stsQ O N R = q → fsPost (X.map fun x => (⟨#[]⟩, ⟨#[]⟩, x.1, x.2)) (.returned (.tuple #[.agg #[.string ⟨#[]⟩, .string ⟨#[]⟩, .int .i64 N, .string R, .bool false, .slice none 0 0, .string ⟨#[]⟩], .bool q]))) := by
          show ∀ q, _ → _
          intro q hq
          have hx := HX.out
          rw [hq] at hx
          cases q
          · rw [if_neg (by simp)] at hx
            subst hx
            exact ⟨⟨#[]⟩, ⟨#[]⟩, N, R, rfl, fun x h => by cases h⟩
          · rw [if_pos rfl] at hx
            subst hx
            exact ⟨⟨#[]⟩, ⟨#[]⟩, N, R, rfl, fun x h => by cases h; rfl⟩
        clear M2 A2 HX
        cases O
        · have HQ := hideB2 (HFS.out false (by unfold stsQ; simp))
          clear HFS HPL
          go_big_region
          go_wp2
          refine bodyPost_ret (results_cellT rfl _ _ _ rfl (HA2.out.set7 (.string ⟨#[]⟩) (.string ⟨#[]⟩) (.int .i64 N) (.string R) (.bool false) (.slice none 0 0) (.string ⟨#[]⟩)).drew Tryz.underlying50 Tryz.infoMsg) rfl ⟨?_, (below_set7 HB2.out (Nat.le_refl _) (.string ⟨#[]⟩) (.string ⟨#[]⟩) (.int .i64 N) (.string R) (.bool false) (.slice none 0 0) (.string ⟨#[]⟩)).drew⟩
          exact HQ.out
        · cases d2 : decide (200 ≤ N)
          · have HQ := hideB2 (HFS.out false (by unfold stsQ; rw [d2]; simp))
            clear HFS HPL
            go_big_region
            go_wp2
            refine bodyPost_ret (results_cellT rfl _ _ _ rfl (HA2.out.set7 (.string ⟨#[]⟩) (.string ⟨#[]⟩) (.int .i64 N) (.string R) (.bool false) (.slice none 0 0) (.string ⟨#[]⟩)).drew Tryz.underlying50 Tryz.infoMsg) rfl ⟨?_, (below_set7 HB2.out (Nat.le_refl _) (.string ⟨#[]⟩) (.string ⟨#[]⟩) (.int .i64 N) (.string R) (.bool false) (.slice none 0 0) (.string ⟨#[]⟩)).drew⟩
            exact HQ.out
          · cases d5 : decide (N ≤ 599)
            · have HQ := hideB2 (HFS.out false (by unfold stsQ; rw [d5]; simp))
              clear HFS HPL
              go_big_region
              go_wp2
              refine bodyPost_ret (results_cellT rfl _ _ _ rfl (HA2.out.set7 (.string ⟨#[]⟩) (.string ⟨#[]⟩) (.int .i64 N) (.string R) (.bool false) (.slice none 0 0) (.string ⟨#[]⟩)).drew Tryz.underlying50 Tryz.infoMsg) rfl ⟨?_, (below_set7 HB2.out (Nat.le_refl _) (.string ⟨#[]⟩) (.string ⟨#[]⟩) (.int .i64 N) (.string R) (.bool false) (.slice none 0 0) (.string ⟨#[]⟩)).drew⟩
              exact HQ.out
            · cases d4 : decide ((R.size : Int) ≤ 40)
              · have HQ := hideB2 (HFS.out false (by unfold stsQ; rw [d4]; simp))
                clear HFS HPL
                go_big_region
                go_wp2
                refine bodyPost_ret (results_cellT rfl _ _ _ rfl (HA2.out.set7 (.string ⟨#[]⟩) (.string ⟨#[]⟩) (.int .i64 N) (.string R) (.bool false) (.slice none 0 0) (.string ⟨#[]⟩)).drew Tryz.underlying50 Tryz.infoMsg) rfl ⟨?_, (below_set7 HB2.out (Nat.le_refl _) (.string ⟨#[]⟩) (.string ⟨#[]⟩) (.int .i64 N) (.string R) (.bool false) (.slice none 0 0) (.string ⟨#[]⟩)).drew⟩
                exact HQ.out
              · have HQ := hideB2 (HFS.out (plnB R) (by unfold stsQ; rw [d2, d5, d4]; simp))
                clear HFS
                generalize plnB R = q at *
                have hne1 : w.heap.size ≠ G := by omega
                have hne2 : G ≠ w.heap.size := by omega
                go_region_held (fun w' => w'.cell? ⟨G, 0, none⟩ = some (.string ⟨#[]⟩) ∧ w'.cell? ⟨G, 1, none⟩ = some (.string ⟨#[]⟩) ∧ w'.cell? ⟨G, 2, none⟩ = some (.int .i64 N) ∧ w'.cell? ⟨G, 3, none⟩ = some (.string R) ∧ w'.cell? ⟨G, 4, none⟩ = some (.bool false) ∧ w'.cell? ⟨G, 5, none⟩ = some (.slice none 0 0) ∧ w'.cell? ⟨G, 6, none⟩ = some (.string ⟨#[]⟩)) (go_keep) ((go_at_call 174; refine (HPL.out _).mono ?_; rintro e w3 ⟨rfl, rfl⟩))
                all_goals
                  go_wp2_with fail
                  refine bodyPost_ret (results_cellT rfl _ _ _ rfl (HA2.out.set7 (.string ⟨#[]⟩) (.string ⟨#[]⟩) (.int .i64 N) (.string R) (.bool false) (.slice none 0 0) (.string ⟨#[]⟩)).drew Tryz.underlying50 Tryz.infoMsg) rfl ⟨?_, (below_set7 HB2.out (Nat.le_refl _) (.string ⟨#[]⟩) (.string ⟨#[]⟩) (.int .i64 N) (.string R) (.bool false) (.slice none 0 0) (.string ⟨#[]⟩)).drew⟩
                exact HQ.out
      · have g32 : ((s[12].toNat : Int) != 32) = true := by
          rw [show s[12] = at8 s 12 from at8_eq s 12 h12]
          have : ¬ (at8 s 12).toNat = 32 := fun h => hb (UInt8.toNat_inj.1 h)
          simp; omega
        rw [an_bl hb]
        obtain ⟨a0, a1, a2, a3, a4, a5, a6⟩ := HA.out.c7
        obtain ⟨f0, f1, f2, f3, f4, f5, f6⟩ := HA.out.f7
        clear hv hb
        go_enter Tryz.func158, Tryz.ntmps158
        go_wp2
        refine bodyPost_ret (results_cellT rfl _ _ _ rfl (Blk.new _ _ _) Tryz.underlying50 Tryz.infoMsg) rfl ⟨⟨⟨#[]⟩, ⟨#[]⟩, 0, ⟨#[]⟩, rfl, fun x hx => no_fl hx⟩, below_a1 _ _⟩
    · rw [decide_eq_false hv] at hev
      rw [an_ver hv]
      obtain ⟨a0, a1, a2, a3, a4, a5, a6⟩ := HA.out.c7
      obtain ⟨f0, f1, f2, f3, f4, f5, f6⟩ := HA.out.f7
      clear hv
      go_enter Tryz.func158, Tryz.ntmps158
      go_wp2
      refine bodyPost_ret (results_cellT rfl _ _ _ rfl (Blk.new _ _ _) Tryz.underlying50 Tryz.infoMsg) rfl ⟨⟨⟨#[]⟩, ⟨#[]⟩, 0, ⟨#[]⟩, rfl, fun x hx => no_fl hx⟩, below_a1 _ _⟩
end Go.Proofs.YthdgeepedofleaaGreatDoor
namespace Go.Proofs.YthdgeepedofleaaGreatDoor
set_option linter.unusedVariables false
set_option linter.unusedSimpArgs false
open Go.RowKit Go.Maps
/-- The value v is a slice of the call's own, from block B on, that holds the fields l. -/
structure OwF (B : Nat) (w : World) (v : Value) (l : List Fd) : Prop where
  own : w.ownsRow B 88 2 v l.length (cellsF l)
  le : B ≤ w.heap.size
theorem OwF.start {B : Nat} {w : World} (h : B ≤ w.heap.size) : OwF B w (.slice none 0 0) [] := ⟨World.ownsRow_nil _ _ _ _, h⟩
theorem OwF.alloc {B : Nat} {w : World} {v : Value} {l : List Fd} (h : OwF B w v l) (o : Obj) : OwF B (w.alloc o) v l := ⟨h.own.alloc o, by have := h.le; simp; omega⟩
theorem OwF.form {B : Nat} {w : World} {v : Value} {l : List Fd} (h : OwF B w v l) : ∃ (a : Option Addr) (c : Nat), v = .slice a l.length c := by
  rcases h.own.2 with ⟨h1, h2⟩ | ⟨g, cap, cur, h1, _⟩
  · exact ⟨none, 0, by rw [h1, h2]⟩
  · exact ⟨_, _, h1⟩
theorem OwF.later {B : Nat} {w w' : World} {v : Value} {l : List Fd} (h : OwF B w v l) (hb : Below w.heap.size w w') : OwF B w' v l := by
  refine ⟨?_, Nat.le_trans h.le hb.size⟩
  exact h.own.kept (row := none) ⟨hb.os, hb.tape, hb.output, hb.size, fun k hk _ => hb.block k hk⟩ (by
    cases hv : v.ownBlock with
    | none => exact Or.inl rfl
    | some g => exact Or.inr (by intro e; cases e))
theorem OwF.drew {B : Nat} {w : World} {v : Value} {l : List Fd} (h : OwF B w v l) : OwF B w.drew v l := h.later (Below.refl _ w).drew
/-- A store into an elder block. -/
theorem OwF.set {B : Nat} {w : World} {v : Value} {l : List Fd} (h : OwF B w v l) {g : Nat} (hg : g < B) (k : Nat) (x : Value) : OwF B (w.setCell ⟨g, k, none⟩ x) v l :=
  ⟨ownsRow_setCell_below h.own hg x, by simpa [World.setCell] using h.le⟩
theorem OwF.set7 {B : Nat} {w : World} {v : Value} {l : List Fd} (h : OwF B w v l) {g : Nat} (hg : g < B) (x0 x1 x2 x3 x4 x5 x6 : Value) : OwF B (((((((w.setCell ⟨g, 0, none⟩ x0).setCell ⟨g, 1, none⟩ x1).setCell ⟨g, 2, none⟩ x2).setCell ⟨g, 3, none⟩ x3).setCell ⟨g, 4, none⟩ x4).setCell ⟨g, 5, none⟩ x5).setCell ⟨g, 6, none⟩ x6) v l :=
  ((((((h.set hg 0 x0).set hg 1 x1).set hg 2 x2).set hg 3 x3).set hg 4 x4).set hg 5 x5).set hg 6 x6
theorem OwF.sl {B : Nat} {w : World} {v : Value} {l : List Fd} (h : OwF B w v l) : SlF w v l := by
  have ho := h.own
  rcases h.own.2 with ⟨h1, h2⟩ | ⟨g, cap, cur, h1, hg, hh, _⟩
  · exact .inl ⟨h1, List.eq_nil_of_length_eq_zero h2⟩
  · have hlt := (h.own.lt g (by rw [h1]; rfl)).2
    rw [h1] at ho
    refine .inr ⟨g, cap, h1, ⟨fun j hj => ?_, fun j hj => ?_, fun j => ho.frozenAt j, hlt⟩⟩
    · rw [ho.cellAt (j * 2) (by omega)]; exact (cellsF_at l j hj).1
    · rw [ho.cellAt (j * 2 + 1) (by omega)]; exact (cellsF_at l j hj).2
theorem wp_fapp2 {ops : Array Oper} {rest : List Oper} {o : Oper} {a : Act} {Q : Exit → Act → World → Prop} {B : Nat} {W : World} (hgd : o.guard = none) (s x : Operand)
    (ho : o.op = .call { callee := .builtin .append, args := #[s, x], argTypes := #[48, 48] }) (v : Value) (l : List Fd) (hs : a.eval s = v) (hbuf : OwF B W v l)
    (d t : ByteArray) (nW : Nat) (hnW : W.heap.size = nW) (hx : a.eval x = .slice (some ⟨nW, 0, none⟩) 1 1) (hlen : l.length ≤ 1048576)
    (h : ∀ v' W', OwF B W' v' (l ++ [(d, t)]) → Below B W W' → (∀ g c t, v.ownBlock ≠ some g → Blk W g c t → Blk W' g c t) → wpList Tryz.prog ops Q rest (a.put o.dst v') W') :
    wpList Tryz.prog ops Q (o :: rest) a (W.alloc (.cells #[.string d, .string t] 88)) := by
  subst hnW
  obtain ⟨i0, hi, hz0, hz1, hz2⟩ := info_parts Tryz.infoF
  refine wpList_append_own _ hgd s x 48 ho B 88 i0 _ 2 32 Tryz.underlying48 hi hz0 hz1 hz2 rfl (by decide) v l.length (cellsF l) hs (hbuf.own.alloc _) ⟨W.heap.size, 0, none⟩ 1 1 (cellsF [(d, t)]) hx (by rw [cellsF_len]; rfl) ?_ (cellsF_one _) (by unfold maxLen; omega) (by omega) (by have := hbuf.le; simp; omega) ?_
  · intro j u hu
    have hj : j < 2 := by have := (List.getElem?_eq_some_iff.1 hu).1; rwa [cellsF_len] at this
    rw [Addr.add_lit, Nat.zero_add, (Blk.new W _ _).cell j, ← hu]
    rcases j with _ | _ | j
    · rfl
    · rfl
    · omega
  intro v' W' hown hgrow _
  have hbl : Below B W W' := by
    refine ((Below.refl B W).alloc hbuf.le _).grown hgrow (by have := hbuf.le; simp; omega) ?_
    intro k hk
    exact (hbuf.own.lt k hk).1
  refine h v' W' ⟨?_, Nat.le_trans hbuf.le hbl.size⟩ hbl (fun g c tt hne hB => ?_)
  rotate_left
  · have h1 := hB.alloc (.cells #[.string d, .string t] 88)
    have hl := h1.lt
    unfold Blk at *
    rw [hgrow.block g hl (fun e => hne e.symm)]; exact h1
  rw [List.length_append, List.length_singleton, cellsF_app]
  exact hown
/-- append(x, f) inside a region that draws: f lies in block N. -/
theorem step_fapp2 {ops : Array Oper} {o : Oper} {a : Act} {W : World} {K : Act → World → Prop} {Q : Exit → Act → World → Prop} {E : Prop} (hgd : o.guard = none) (s x : Operand)
    (ho : o.op = .call { callee := .builtin .append, args := #[s, x], argTypes := #[48, 48] }) (B : Nat) (v : Value) (l : List Fd) (hs : a.eval s = v) (hbuf : OwF B W v l) (N : Nat) (d t : ByteArray)
    (hx : a.eval x = .slice (some ⟨N, 0, none⟩) 1 1) (hN : Blk W N #[.string d, .string t] 88) (hlen : l.length ≤ 20)
    (k : ∀ v' W', OwF B W' v' (l ++ [(d, t)]) → Below B W W' → K (a.put o.dst v') W') :
    if Region.wanted o (yielded ops a.tmps) = true then Oper.wp Tryz.prog o a W K Q else E := by
  obtain ⟨i0, hi, hz0, hz1, hz2⟩ := info_parts Tryz.infoF
  refine step_append_lies W hgd s x 48 ho B 88 i0 _ 2 32 Tryz.underlying48 hi hz0 hz1 hz2 rfl (by decide) v l.length (cellsF l) hs hbuf.own ⟨N, 0, none⟩ 1 1 (cellsF [(d, t)]) hx (by rw [cellsF_len]; rfl) ?_ (cellsF_one _) (by omega) (by unfold maxLen; omega) (by omega) hbuf.le _ rfl ?_
  · intro j u hu
    have hj : j < 2 := by have := (List.getElem?_eq_some_iff.1 hu).1; rwa [cellsF_len] at this
    rw [Addr.add_lit, Nat.zero_add, hN.cell j, ← hu]
    rcases j with _ | _ | j
    · rfl
    · rfl
    · omega
  intro g cap w' hown hgrow _ _
  have hbl : Below B W w' := by
    refine (Below.refl B W).grown hgrow hbuf.le ?_
    intro j hj
    exact (hbuf.own.lt j hj).1
  refine k _ w' ⟨?_, Nat.le_trans hbuf.le hbl.size⟩ hbl
  rw [List.length_append, List.length_singleton, cellsF_app]
  exact hown
theorem OwF.buf {B : Nat} {w0 w : World} {v : Value} {l : List Fd} (h : OwF B w v l) (hB : w0.heap.size ≤ B) (hb : Below w0.heap.size w0 w) : BufF w0 w v l := by
  refine ⟨hb, h.own.1, ?_⟩
  rcases h.own.2 with h2 | ⟨g, cap, cur, h1, hg, r⟩
  · exact .inl h2
  · exact .inr ⟨g, cap, cur, h1, Nat.le_trans hB hg, r⟩
theorem OwF.ne {B : Nat} {w : World} {v : Value} {l : List Fd} (h : OwF B w v l) {g : Nat} (hg : v.ownBlock = some g) : B ≤ g := (h.own.lt g hg).1
end Go.Proofs.YthdgeepedofleaaGreatDoor
namespace Go.Proofs.YthdgeepedofleaaGreatDoor
set_option linter.unusedVariables false
set_option linter.unusedSimpArgs false
open Go.RowKit

theorem tlE_of {s : ByteArray} {k m : Nat} (h : eolLen s k = m) : tlE s k = k + m := by unfold tlE; rw [h]

set_option maxHeartbeats 1000000 in
theorem sTakeLine_bad (s : ByteArray) (n : Int) (w : World) (hc : curOk s n = false) :
    Calls Tryz.prog 157 #[.agg #[.string s, .int .i64 n]] w fun e w' => e = .returned (.tuple #[.string ⟨#[]⟩, curZ, .int .i64 2]) ∧ Below w.heap.size w w' := by
  go_enter Tryz.func157, Tryz.ntmps157
  go_wp2_with (go_at_call 202; refine (sCurOk_any s _ _).mono ?_; rintro e w' ⟨rfl, rfl⟩)
  refine bodyPost_ret (v := .tuple #[.string ⟨#[]⟩, curZ, .int .i64 2]) (by simp [results, Tryz.results157, go_sem, curZ]) rfl ⟨rfl, ?_⟩
  exact (by repeat (first | exact Below.refl _ _ | refine Below.drew ?_ | refine Below.alloc ?_ (by simp <;> omega) _ | refine Below.setCell ?_ (by simp <;> omega) _))
set_option maxHeartbeats 2000000 in
theorem sTakeLine_ok (s : ByteArray) (k : Nat) (w : World) (hs : s.size ≤ maxLen) (hk : k ≤ s.size) :
    Calls Tryz.prog 157 #[.agg #[.string s, .int .i64 (k : Int)]] w fun e w' => e = .returned (tlV s k) ∧ Below w.heap.size w w' := by
  have hs' := hs
  unfold maxLen at hs'
  have hc : curOk s (k : Int) = true := curOk_iff.2 ⟨by omega, by omega⟩
  go_enter Tryz.func157, Tryz.ntmps157
  go_wp2_with (go_at_call 202; refine (sCurOk_any s _ _).mono ?_; rintro e w' ⟨rfl, rfl⟩)
  clear hc
  go_loop [5] (fun i => ∃ m : Nat, k + m ≤ s.size ∧ i = .int .i64 ((k : Int) + (m : Int)) ∧ ∀ j, j < m → eol8 (at8 s (k + j)) = false) (fun i => s.size - (intOf i).toNat)
  case atStart => exact ⟨0, by omega, by simp, fun j hj => by omega⟩
  case round =>
    obtain ⟨m, hkm, rfl, hall⟩ := hrel
    have Hall : Hid (∀ j, j < m → eol8 (at8 s (k + j)) = false) := hall
    clear hall
    by_cases hlt : k + m < s.size
    · have hltI : (k : Int) + (m : Int) < (s.size : Int) := by omega
      by_cases h10 : ((at8 s (k + m)).toNat : Int) = 10
      · have g10 : ((s[k + m].toNat : Int) == 10) = true := by rw [at8_eq s (k + m) hlt]; simpa using h10
        have hE := tlE_of (eolLen_of s k m hkm Hall.out (Or.inr (eolP_iff.2 (Or.inr h10))))
        have hfin : Hid (tlV s k = .tuple #[.string ⟨#[]⟩, curZ, .int .i64 2]) := tlV_bad (tlC_10 (by rw [hE]; exact hlt) (by rw [hE]; omega))
        clear h10 hE
        go_wp2
        refine bodyPost_ret (v := .tuple #[.string ⟨#[]⟩, curZ, .int .i64 2]) (by simp [results, Tryz.results157, go_sem, curZ]) rfl ⟨by rw [hfin.out], ?_⟩
        exact (by repeat (first | exact Below.refl _ _ | refine Below.drew ?_ | refine Below.alloc ?_ (by simp <;> omega) _ | refine Below.setCell ?_ (by simp <;> omega) _))
      · have g10 : ((s[k + m].toNat : Int) == 10) = false := by rw [at8_eq s (k + m) hlt]; simpa using h10
        by_cases h13 : ((at8 s (k + m)).toNat : Int) = 13
        · have g13 : ((s[k + m].toNat : Int) == 13) = true := by rw [at8_eq s (k + m) hlt]; simpa using h13
          have hE := tlE_of (eolLen_of s k m hkm Hall.out (Or.inr (eolP_iff.2 (Or.inl h13))))
          by_cases hend : k + m + 1 = s.size
          · have hge : s.size ≤ k + m + 1 := by omega
            have hfin : Hid (tlV s k = .tuple #[.string ⟨#[]⟩, curZ, .int .i64 1]) := tlV_short (tlC_13end (by rw [hE]; exact hend) (by rw [hE]; omega))
            clear h10 h13 hE hend
            go_wp2
            refine bodyPost_ret (v := .tuple #[.string ⟨#[]⟩, curZ, .int .i64 1]) (by simp [results, Tryz.results157, go_sem, curZ]) rfl ⟨by rw [hfin.out], ?_⟩
            exact (by repeat (first | exact Below.refl _ _ | refine Below.drew ?_ | refine Below.alloc ?_ (by simp <;> omega) _ | refine Below.setCell ?_ (by simp <;> omega) _))
          · have hL2 : k + m + 1 < s.size := by omega
            by_cases hn : ((at8 s (k + m + 1)).toNat : Int) = 10
            · have gn : ((s[k + m + 1].toNat : Int) != 10) = false := by rw [at8_eq s (k + m + 1) hL2]; simpa using hn
              have hfin : Hid (tlV s k = .tuple #[.string (s.extract k (k + m)), .agg #[.string s, .int .i64 ((k : Int) + (m : Int) + 2)], .int .i64 0]) := by
                have := tlV_ok (tlC_ok (s := s) (k := k) (by rw [hE]; exact hL2) (by rw [hE]; omega) (by rw [hE]; omega))
                rw [hE] at this
                rw [show (k : Int) + (m : Int) = ((k + m : Nat) : Int) from by omega]
                exact this
              have e1 : IntKind.i64.wrap ((k : Int) + (m : Int) + 2) = (k : Int) + (m : Int) + 2 := by rw [IntKind.wrap_i64]; omega
              have hkm2 : k ≤ k + m := by omega
              clear h10 h13 hE hend hn
              go_wp2
              go_region
              go_wp2
              refine bodyPost_ret (v := .tuple #[.string (s.extract k (k + m)), .agg #[.string s, .int .i64 ((k : Int) + (m : Int) + 2)], .int .i64 0]) (by simp [results, Tryz.results157, go_sem]) rfl ⟨by rw [hfin.out], ?_⟩
              exact (by repeat (first | exact Below.refl _ _ | refine Below.drew ?_ | refine Below.alloc ?_ (by simp <;> omega) _ | refine Below.setCell ?_ (by simp <;> omega) _))
            · have gn : ((s[k + m + 1].toNat : Int) != 10) = true := by rw [at8_eq s (k + m + 1) hL2]; simpa using hn
              have hfin : Hid (tlV s k = .tuple #[.string ⟨#[]⟩, curZ, .int .i64 2]) := tlV_bad (tlC_no (by rw [hE]; exact hL2) (by rw [hE]; omega) (by rw [hE]; omega))
              clear h10 h13 hE hend hn
              go_wp2
              refine bodyPost_ret (v := .tuple #[.string ⟨#[]⟩, curZ, .int .i64 2]) (by simp [results, Tryz.results157, go_sem, curZ]) rfl ⟨by rw [hfin.out], ?_⟩
              exact (by repeat (first | exact Below.refl _ _ | refine Below.drew ?_ | refine Below.alloc ?_ (by simp <;> omega) _ | refine Below.setCell ?_ (by simp <;> omega) _))
        · have g13 : ((s[k + m].toNat : Int) == 13) = false := by rw [at8_eq s (k + m) hlt]; simpa using h13
          have hnew : Hid (eol8 (at8 s (k + m)) = false) := eolP_no.2 ⟨h13, h10⟩
          clear h10 h13
          go_wp2
          go_round
          case rel => exact ⟨m + 1, by omega, by go_num, all_succ Hall.out hnew.out⟩
          case measure => simp [intOf]; omega
    · have hge : (s.size : Int) ≤ (k : Int) + (m : Int) := by omega
      have hE := tlE_of (eolLen_of s k m hkm Hall.out (Or.inl (by omega)))
      have hfin : Hid (tlV s k = .tuple #[.string ⟨#[]⟩, curZ, .int .i64 1]) := tlV_short0 (by rw [hE]; omega)
      clear hE
      go_wp2
      refine bodyPost_ret (v := .tuple #[.string ⟨#[]⟩, curZ, .int .i64 1]) (by simp [results, Tryz.results157, go_sem, curZ]) rfl ⟨by rw [hfin.out], ?_⟩
      exact (by repeat (first | exact Below.refl _ _ | refine Below.drew ?_ | refine Below.alloc ?_ (by simp <;> omega) _ | refine Below.setCell ?_ (by simp <;> omega) _))
end Go.Proofs.YthdgeepedofleaaGreatDoor
namespace Go.Proofs.YthdgeepedofleaaGreatDoor
set_option linter.unusedVariables false
set_option linter.unusedSimpArgs false
open Go.RowKit
def contX (h : Fl) : Except Int (List Fd × Nat) → Except Int (Fl × List Fd × Nat)
  | .error c => .error c
  | .ok (fs, m) => .ok (h, fs, m)
theorem hdZ_some {answer : Bool} {s : ByteArray} {x : Fl} (h : flX answer (lineAt s 0) = some x) : hdZ answer s = contX x (lnR s 21 (tlE s 0 + 2) []) := by
  cases hl : lnR s 21 (tlE s 0 + 2) [] with
  | error c => exact hdZ_bad h hl
  | ok y => obtain ⟨fs, m⟩ := y; exact hdZ_ok h hl
theorem hdX_bad {answer : Bool} {s : ByteArray} (h1 : ¬ 4000 < s.size) (h2 : hlC s 0 ≠ 0) : hdX answer s = .error (hlC s 0) := by unfold hdX; rw [if_neg h1, if_pos h2]
/-- How many fields a message holds that lies at g. -/
def fldN (g : Nat) (w : World) : Nat :=
  match w.cell? ⟨g, 5, none⟩ with
  | some (.slice _ n _) => n
  | _ => 0
def fstN (v : Value) : Nat :=
  match v with
  | .bool true => 22
  | _ => 0
/-- A line of a head has a code: 400 or 431. -/
theorem hlC_431 {s : ByteArray} {k : Nat} (h : tlC s k = 0) (h2 : hlC s k ≠ 0) : hlC s k = 431 ∧ (300 < tlE s k - k ∨ 1500 < tlE s k + 2) := by
  unfold hlC at *
  rw [if_pos h] at *
  split at h2
  · rename_i h3; rw [if_pos h3]; exact ⟨rfl, h3⟩
  · exact absurd rfl h2
set_option maxRecDepth 100000 in
set_option maxHeartbeats 16000000 in
theorem sReadHead_any (s : ByteArray) (answer : Bool) (w : World) (hs : s.size ≤ 1048576) :
    Calls Tryz.prog 119 #[.string s, .bool answer] w fun e w' => ∃ v, e = .returned (.tuple #[mgV (hdM (hdX answer s)) v, .int .i64 (hdN (hdX answer s) : Int), .int .i64 (exC (hdX answer s))]) ∧ BufF w w' v (hdM (hdX answer s)).fs := by
  by_cases h1 : (4000 : Int) < (s.size : Int)
  · have hX : hdX answer s = .error 413 := by unfold hdX; rw [if_pos (by omega)]
    rw [hX]
    go_enter Tryz.func119, Tryz.ntmps119
    go_wp2
    refine bodyPost_ret (results_cellTT rfl _ _ _ rfl (Blk.new _ _ _) Tryz.underlying50 Tryz.infoMsg) rfl ⟨.slice none 0 0, ?_, ?_⟩
    · rfl
    · exact (BufF.start w).later (below_a1 _ _)
  · have d1 : decide ((4000 : Int) < (s.size : Int)) = false := decide_eq_false h1
    have HSM : Hid (s.size ≤ maxLen) := by show _ ≤ _; unfold maxLen; omega
    have HXB := hideB2 (fun h => hdX_bad (answer := answer) (s := s) (by omega) h)
    have HXG := hideB2 (fun h => hdX_go (answer := answer) (s := s) (by omega) h)
    generalize hdX answer s = X at *
    have o0_0 : Blk (w.alloc (.cells #[.string ⟨#[]⟩, .string ⟨#[]⟩, .int .i64 0, .string ⟨#[]⟩, .bool false, .slice none 0 0, .string ⟨#[]⟩] 50)) w.heap.size #[.string ⟨#[]⟩, .string ⟨#[]⟩, .int .i64 0, .string ⟨#[]⟩, .bool false, .slice none 0 0, .string ⟨#[]⟩] 50 := Blk.new w _ _
    have b1 := below_a1 w (.cells #[.string ⟨#[]⟩, .string ⟨#[]⟩, .int .i64 0, .string ⟨#[]⟩, .bool false, .slice none 0 0, .string ⟨#[]⟩] 50)
    generalize hW1 : w.alloc (.cells #[.string ⟨#[]⟩, .string ⟨#[]⟩, .int .i64 0, .string ⟨#[]⟩, .bool false, .slice none 0 0, .string ⟨#[]⟩] 50) = W1 at *
    have n1 : W1.heap.size = w.heap.size + 1 := by rw [← hW1]; simp
    have o1_1 : Blk (W1.alloc (.cells #[.string ⟨#[]⟩, .string ⟨#[]⟩, .int .i64 0, .string ⟨#[]⟩, .bool false, .slice none 0 0, .string ⟨#[]⟩] 50)) (w.heap.size + 1) #[.string ⟨#[]⟩, .string ⟨#[]⟩, .int .i64 0, .string ⟨#[]⟩, .bool false, .slice none 0 0, .string ⟨#[]⟩] 50 := by rw [← n1]; exact Blk.new W1 _ _
    have o0_1 := o0_0.alloc (.cells #[.string ⟨#[]⟩, .string ⟨#[]⟩, .int .i64 0, .string ⟨#[]⟩, .bool false, .slice none 0 0, .string ⟨#[]⟩] 50)
    have b2 := below_then b1 (below_a1 W1 (.cells #[.string ⟨#[]⟩, .string ⟨#[]⟩, .int .i64 0, .string ⟨#[]⟩, .bool false, .slice none 0 0, .string ⟨#[]⟩] 50))
    generalize hW2 : W1.alloc (.cells #[.string ⟨#[]⟩, .string ⟨#[]⟩, .int .i64 0, .string ⟨#[]⟩, .bool false, .slice none 0 0, .string ⟨#[]⟩] 50) = W2 at *
    have n2 : W2.heap.size = w.heap.size + 1 + 1 := by rw [← hW2]; simp [n1]
    have o2_2 : Blk (W2.alloc (.cells #[.string s, .int .i64 0] 183)) (w.heap.size + 1 + 1) #[.string s, .int .i64 0] 183 := by rw [← n2]; exact Blk.new W2 _ _
    have o1_2 := o1_1.alloc (.cells #[.string s, .int .i64 0] 183)
    have o0_2 := o0_1.alloc (.cells #[.string s, .int .i64 0] 183)
    have b3 := below_then b2 (below_a1 W2 (.cells #[.string s, .int .i64 0] 183))
    have n3 : (W2.alloc (.cells #[.string s, .int .i64 0] 183)).heap.size = w.heap.size + 1 + 1 + 1 := by simp [n2]
    have HA3 := hideB2 o0_2
    have HM3 := hideB2 o1_2
    have HC3 := hideB2 o2_2
    have HB3 := hideB2 b3
    have HN3 := hideB2 n3
    subst hW2
    subst hW1
    clear o0_0 o0_1 o0_2 o1_1 o1_2 o2_2 b1 b2 b3 n1 n2 n3
    go_enter Tryz.func119, Tryz.ntmps119
    go_wp2
    generalize hW : World.alloc _ (.cells #[.string s, .int .i64 0] 183) = W3 at *
    clear hW
    have hl1 : w.heap.size < w.heap.size + 1 := by omega
    have hl2 : w.heap.size + 1 < w.heap.size + 1 + 1 := by omega
    have hl3 : w.heap.size + 1 + 1 < w.heap.size + 1 + 1 + 1 := by omega
    generalize hGB : w.heap.size + 1 + 1 + 1 = GB at *
    generalize hG2 : w.heap.size + 1 + 1 = G2 at *
    generalize hG1 : w.heap.size + 1 = G1 at *
    clear hGB hG2 hG1
    go_loopw [9] (fun f wr => ∃ (first : Bool) (k : Nat) (a b : ByteArray) (n : Int) (r : ByteArray) (acc : List Fd) (v : Value), f = .bool first ∧ k ≤ s.size ∧ acc.length ≤ 20 ∧ Hid (first = false → contX (a, b, n, r) (lnR s (21 - acc.length) k acc) = X) ∧ Hid (first = true → k = 0 ∧ a = ⟨#[]⟩ ∧ b = ⟨#[]⟩ ∧ n = 0 ∧ r = ⟨#[]⟩ ∧ acc = [] ∧ v = .slice none 0 0) ∧ Blk wr w.heap.size #[.string ⟨#[]⟩, .string ⟨#[]⟩, .int .i64 0, .string ⟨#[]⟩, .bool false, .slice none 0 0, .string ⟨#[]⟩] 50 ∧ Blk wr G2 #[.string s, .int .i64 (k : Int)] 183 ∧ Blk wr G1 #[.string a, .string b, .int .i64 n, .string r, .bool false, v, .string ⟨#[]⟩] 50 ∧ OwF GB wr v acc ∧ Below w.heap.size w wr) (fun f wr => fstN f + (21 - fldN G1 wr))
    case atStart => exact ⟨true, 0, ⟨#[]⟩, ⟨#[]⟩, 0, ⟨#[]⟩, [], .slice none 0 0, rfl, Nat.zero_le _, Nat.zero_le _, (fun h => by cases h), (fun _ => ⟨rfl, rfl, rfl, rfl, rfl, rfl, rfl⟩), HA3.out, HC3.out, HM3.out, OwF.start (by rw [HN3.out]; exact Nat.le_refl _), HB3.out⟩
    case round =>
      obtain ⟨first, k, a, b, n, r, acc, v, rfl, hk, hacc, hy, hf, ha, hc, hm, hown, hbw⟩ := hrel
      clear HA3 HC3 HM3 HB3 HN3
      have HXK : Hid (hlC s k ≠ 0 → X = .error (hlC s k)) := by
        show _ → _
        intro h
        cases first
        · have h2 := hy.out rfl
          rw [show 21 - acc.length = (20 - acc.length) + 1 by omega, lnR_bad h] at h2
          exact h2.symm
        · have h2 := (hf.out rfl).1
          subst h2
          exact HXB.out h
      obtain ⟨va, vc, rfl⟩ := hown.form
      obtain ⟨c0, c1⟩ := hc.c2
      have HA := hideB2 ha
      have HCc := hideB2 hc
      have HM := hideB2 hm
      have HMR := HM
      have HOw := hideB2 hown
      have HBw := hideB2 hbw
      clear ha hc hm hown hbw
      by_cases htc : tlC s k = 0
      · have HT : Hid (∀ W, Calls Tryz.prog 157 #[.agg #[.string s, .int .i64 (k : Int)]] W fun e w' => e = .returned (.tuple #[.string (lineAt s k), .agg #[.string s, .int .i64 ((tlE s k : Int) + 2)], .int .i64 0]) ∧ Below W.heap.size W w') := by
          show ∀ W, _
          intro W
          have := sTakeLine_ok s k W HSM.out hk
          rw [tlV_ok htc] at this
          exact this
        have hE := tlE_ok hk htc
        have hz2 := lineAt_size (s := s) (k := k) hk
        have hn := lenE_nil2 hk
        have hge := tlE_ge s k
        rw [show (tlE s k : Int) + 2 = ((tlE s k + 2 : Nat) : Int) by omega] at HT
        by_cases h0 : hlC s k = 0
        · have hlen := hlC_zero h0
          have d300 : decide ((300 : Int) < ((lineAt s k).size : Int)) = false := decide_eq_false (by omega)
          have d1500 : decide ((1500 : Int) < ((tlE s k + 2 : Nat) : Int)) = false := decide_eq_false (by omega)
          have HLZ : Hid ((lineAt s k).size ≤ 1048576) := by show _ ≤ _; omega
          have HFN := hideB2 (fun h1 h2 => lnR_full (n := 20 - acc.length) (acc := acc) h0 h1 h2)
          have HFE := hideB2 (fun h1 => lnR_end (n := 20 - acc.length) (acc := acc) h0 h1)
          have HFB := hideB2 (fun h1 h2 h3 => lnR_no (n := 20 - acc.length) (acc := acc) h0 h1 h2 h3)
          have HFO := hideB2 (fun h1 h2 h3 => lnR_next (n := 20 - acc.length) (acc := acc) h0 h1 h2 h3)
          have HN21 := hideB2 (show 21 - acc.length = (20 - acc.length) + 1 by omega)
          cases first
          · have HY := hideB2 (hy.out rfl)
            clear hy hf HXK HXB HXG
            by_cases he : tlE s k = k
            · obtain rfl : X = .ok ((a, b, n, r), acc, k + 2) := by rw [← HY.out, HN21.out, HFE.out he]; rfl
              rw [decide_eq_true he] at hn
              rw [he] at HT d1500
              clear HFN HFE HFB HFO HY he hE hge hz2 hlen h0 htc
              generalize lineAt s k = L at *
              generalize hK : k + 2 = K2 at *
              go_wp2_with fail
              refine (HT.out _).mono ?_
              rintro e w4 ⟨rfl, hb4⟩
              have C4 := HCc.out.later hb4
              have M4 := HM.out.later hb4
              have A4 := HA.out.later hb4
              have hlc := C4.lt
              obtain ⟨x0, x1⟩ := C4.c2
              have y0 := C4.free 0
              have y1 := C4.free 1
              have M5 := (M4.oth2 (g := G2) (by omega) (.string s) (.int .i64 (K2 : Int))).alloc (.cells #[.string s, .int .i64 (K2 : Int)] 183)
              have A5 := (A4.oth2 (g := G2) (by omega) (.string s) (.int .i64 (K2 : Int))).alloc (.cells #[.string s, .int .i64 (K2 : Int)] 183)
              have C5 := (C4.set2 (.string s) (.int .i64 (K2 : Int))).alloc (.cells #[.string s, .int .i64 (K2 : Int)] 183)
              have O5 := ((((HOw.out.later hb4).set (g := G2) (by omega) 0 (.string s)).set (g := G2) (by omega) 1 (.int .i64 (K2 : Int)))).alloc (.cells #[.string s, .int .i64 (K2 : Int)] 183)
              have hbw5 := below_then (below_set2 (g := G2) (below_then HBw.out hb4) (by omega) (.string s) (.int .i64 (K2 : Int))) (below_a1 _ (.cells #[.string s, .int .i64 (K2 : Int)] 183))
              obtain ⟨m0, m1, m2, m3, m4, m5, m6⟩ := M5.c7
              obtain ⟨a0, a1, a2, a3, a4, a5, a6⟩ := A5.c7
              obtain ⟨f0, f1, f2, f3, f4, f5, f6⟩ := A5.f7
              have cu1 := C5.c2.2
              have HA5 := hideB2 A5
              have HM5 := hideB2 M5
              have HC5 := hideB2 C5
              have HO5 := hideB2 O5
              have HBW5 := hideB2 hbw5
              clear C4 M4 A4 A5 C5 M5 O5 hbw5 c0 c1
              go_wp2
              generalize hW5 : World.alloc _ (.cells #[.string s, .int .i64 (K2 : Int)] 183) = W5 at *
              clear hW5
              clear d1 d300 d1500 hn x0 x1 y0 y1 HT HA HCc HM HOw HBw HN21
              have hG0 : w.heap.size < GB := by omega
              go_big_region
              go_wp2
              try rw [Exit.noGoto_ret]
              have hA7 := hideB2 (HA5.out.set7 (.string a) (.string b) (.int .i64 n) (.string r) (.bool false) (.slice va acc.length vc) (.string ⟨#[]⟩)).drew
              have hO7 := hideB2 (((HO5.out.set7 hG0 (.string a) (.string b) (.int .i64 n) (.string r) (.bool false) (.slice va acc.length vc) (.string ⟨#[]⟩)).drew).buf (w0 := w) (Nat.le_of_lt hG0) (below_set7 HBW5.out (Nat.le_refl _) (.string a) (.string b) (.int .i64 n) (.string r) (.bool false) (.slice va acc.length vc) (.string ⟨#[]⟩)).drew)
              refine bodyPost_ret (results_cellTT rfl _ _ _ rfl hA7.out Tryz.underlying50 Tryz.infoMsg) rfl ⟨.slice va acc.length vc, ?_, hO7.out⟩
              subst hK
              rfl
            · rw [decide_eq_false he] at hn
              have hf20 := acc.length
              by_cases hful : acc.length = 20
              · obtain rfl : X = .error 431 := by rw [← HY.out, HN21.out, HFN.out he hful]; rfl
                have hfull : ((acc.length : Int) == 20) = true := by rw [hful]; rfl
                clear HFN HFE HFB HFO HY he hE hge hz2 hlen h0 htc
                generalize tlE s k + 2 = K2 at *
                generalize lineAt s k = L at *
                go_wp2_with fail
                refine (HT.out _).mono ?_
                rintro e w4 ⟨rfl, hb4⟩
                have C4 := HCc.out.later hb4
                have M4 := HM.out.later hb4
                have A4 := HA.out.later hb4
                have hlc := C4.lt
                obtain ⟨x0, x1⟩ := C4.c2
                have y0 := C4.free 0
                have y1 := C4.free 1
                have M5 := (M4.oth2 (g := G2) (by omega) (.string s) (.int .i64 (K2 : Int))).alloc (.cells #[.string s, .int .i64 (K2 : Int)] 183)
                have A5 := (A4.oth2 (g := G2) (by omega) (.string s) (.int .i64 (K2 : Int))).alloc (.cells #[.string s, .int .i64 (K2 : Int)] 183)
                have C5 := (C4.set2 (.string s) (.int .i64 (K2 : Int))).alloc (.cells #[.string s, .int .i64 (K2 : Int)] 183)
                have O5 := ((((HOw.out.later hb4).set (g := G2) (by omega) 0 (.string s)).set (g := G2) (by omega) 1 (.int .i64 (K2 : Int)))).alloc (.cells #[.string s, .int .i64 (K2 : Int)] 183)
                have hbw5 := below_then (below_set2 (g := G2) (below_then HBw.out hb4) (by omega) (.string s) (.int .i64 (K2 : Int))) (below_a1 _ (.cells #[.string s, .int .i64 (K2 : Int)] 183))
                obtain ⟨m0, m1, m2, m3, m4, m5, m6⟩ := M5.c7
                obtain ⟨a0, a1, a2, a3, a4, a5, a6⟩ := A5.c7
                obtain ⟨f0, f1, f2, f3, f4, f5, f6⟩ := A5.f7
                have cu1 := C5.c2.2
                have HA5 := hideB2 A5
                have HM5 := hideB2 M5
                have HC5 := hideB2 C5
                have HO5 := hideB2 O5
                have HBW5 := hideB2 hbw5
                clear C4 M4 A4 A5 C5 M5 O5 hbw5 c0 c1
                go_wp2
                refine bodyPost_ret (results_cellTT rfl _ _ _ rfl (HA5.out.set7 (.string ⟨#[]⟩) (.string ⟨#[]⟩) (.int .i64 0) (.string ⟨#[]⟩) (.bool false) (.slice none 0 0) (.string ⟨#[]⟩)) Tryz.underlying50 Tryz.infoMsg) rfl ⟨.slice none 0 0, ?_, ?_⟩
                · rfl
                · exact (BufF.start w).later (below_set7 HBW5.out (Nat.le_refl _) (.string ⟨#[]⟩) (.string ⟨#[]⟩) (.int .i64 0) (.string ⟨#[]⟩) (.bool false) (.slice none 0 0) (.string ⟨#[]⟩))
              · have hfull : ((acc.length : Int) == 20) = false := by simp; omega
                have HRF := hideB2 (fun W => sReadField_any (lineAt s k) W (by have := HLZ.out; unfold maxLen; omega))
                cases hro : readO (lineAt s k)
                · obtain rfl : X = .error 400 := by rw [← HY.out, HN21.out, HFB.out he hful hro]; rfl
                  rw [hro] at HRF
                  clear HFN HFE HFB HFO HY he hE hge hz2 hlen h0 htc hro
                  generalize readF (lineAt s k) = f at *
                  obtain ⟨d, t⟩ := f
                  simp only at HRF
                  generalize tlE s k + 2 = K2 at *
                  generalize lineAt s k = L at *
                  go_wp2_with fail
                  refine (HT.out _).mono ?_
                  rintro e w4 ⟨rfl, hb4⟩
                  have C4 := HCc.out.later hb4
                  have M4 := HM.out.later hb4
                  have A4 := HA.out.later hb4
                  have hlc := C4.lt
                  obtain ⟨x0, x1⟩ := C4.c2
                  have y0 := C4.free 0
                  have y1 := C4.free 1
                  have M5 := (M4.oth2 (g := G2) (by omega) (.string s) (.int .i64 (K2 : Int))).alloc (.cells #[.string s, .int .i64 (K2 : Int)] 183)
                  have A5 := (A4.oth2 (g := G2) (by omega) (.string s) (.int .i64 (K2 : Int))).alloc (.cells #[.string s, .int .i64 (K2 : Int)] 183)
                  have C5 := (C4.set2 (.string s) (.int .i64 (K2 : Int))).alloc (.cells #[.string s, .int .i64 (K2 : Int)] 183)
                  have O5 := ((((HOw.out.later hb4).set (g := G2) (by omega) 0 (.string s)).set (g := G2) (by omega) 1 (.int .i64 (K2 : Int)))).alloc (.cells #[.string s, .int .i64 (K2 : Int)] 183)
                  have hbw5 := below_then (below_set2 (g := G2) (below_then HBw.out hb4) (by omega) (.string s) (.int .i64 (K2 : Int))) (below_a1 _ (.cells #[.string s, .int .i64 (K2 : Int)] 183))
                  obtain ⟨m0, m1, m2, m3, m4, m5, m6⟩ := M5.c7
                  obtain ⟨a0, a1, a2, a3, a4, a5, a6⟩ := A5.c7
                  obtain ⟨f0, f1, f2, f3, f4, f5, f6⟩ := A5.f7
                  have cu1 := C5.c2.2
                  have HA5 := hideB2 A5
                  have HM5 := hideB2 M5
                  have HC5 := hideB2 C5
                  have HO5 := hideB2 O5
                  have HBW5 := hideB2 hbw5
                  clear C4 M4 A4 A5 C5 M5 O5 hbw5 c0 c1
                  go_wp2_with fail
                  refine (HRF.out _).mono ?_
                  rintro e w6 ⟨rfl, hb6⟩
                  have A6 := HA5.out.later hb6
                  have hlt6 := A6.lt
                  clear a0 a1 a2 a3 a4 a5 a6 f0 f1 f2 f3 f4 f5 f6
                  obtain ⟨a0, a1, a2, a3, a4, a5, a6⟩ := A6.c7
                  obtain ⟨f0, f1, f2, f3, f4, f5, f6⟩ := A6.f7
                  have HA7 := hideB2 ((A6.set7 (.string ⟨#[]⟩) (.string ⟨#[]⟩) (.int .i64 0) (.string ⟨#[]⟩) (.bool false) (.slice none 0 0) (.string ⟨#[]⟩)).alloc (.cells #[.string d, .string t] 88))
                  have HB7 := hideB2 (below_then (below_set7 (below_then HBW5.out hb6) (Nat.le_refl _) (.string ⟨#[]⟩) (.string ⟨#[]⟩) (.int .i64 0) (.string ⟨#[]⟩) (.bool false) (.slice none 0 0) (.string ⟨#[]⟩)) (below_a1 _ (.cells #[.string d, .string t] 88)))
                  clear A6
                  go_wp2
                  refine bodyPost_ret (results_cellTT rfl _ _ _ rfl HA7.out Tryz.underlying50 Tryz.infoMsg) rfl ⟨.slice none 0 0, ?_, ?_⟩
                  · rfl
                  · exact (BufF.start w).later HB7.out
                · have HY3 : Hid (contX (a, b, n, r) (lnR s (20 - acc.length) (tlE s k + 2) (acc ++ [readF (lineAt s k)])) = X) := by
                    show _ = _
                    rw [← HY.out, HN21.out, HFO.out he hful hro]
                  rw [hro] at HRF
                  clear HFN HFE HFB HFO HY he hge hz2 hlen h0 htc hro
                  generalize readF (lineAt s k) = f at *
                  obtain ⟨d, t⟩ := f
                  simp only at HRF
                  generalize tlE s k + 2 = K2 at *
                  generalize lineAt s k = L at *
                  go_wp2_with fail
                  refine (HT.out _).mono ?_
                  rintro e w4 ⟨rfl, hb4⟩
                  have C4 := HCc.out.later hb4
                  have M4 := HM.out.later hb4
                  have A4 := HA.out.later hb4
                  have hlc := C4.lt
                  obtain ⟨x0, x1⟩ := C4.c2
                  have y0 := C4.free 0
                  have y1 := C4.free 1
                  have M5 := (M4.oth2 (g := G2) (by omega) (.string s) (.int .i64 (K2 : Int))).alloc (.cells #[.string s, .int .i64 (K2 : Int)] 183)
                  have A5 := (A4.oth2 (g := G2) (by omega) (.string s) (.int .i64 (K2 : Int))).alloc (.cells #[.string s, .int .i64 (K2 : Int)] 183)
                  have C5 := (C4.set2 (.string s) (.int .i64 (K2 : Int))).alloc (.cells #[.string s, .int .i64 (K2 : Int)] 183)
                  have O5 := ((((HOw.out.later hb4).set (g := G2) (by omega) 0 (.string s)).set (g := G2) (by omega) 1 (.int .i64 (K2 : Int)))).alloc (.cells #[.string s, .int .i64 (K2 : Int)] 183)
                  have hbw5 := below_then (below_set2 (g := G2) (below_then HBw.out hb4) (by omega) (.string s) (.int .i64 (K2 : Int))) (below_a1 _ (.cells #[.string s, .int .i64 (K2 : Int)] 183))
                  obtain ⟨m0, m1, m2, m3, m4, m5, m6⟩ := M5.c7
                  obtain ⟨a0, a1, a2, a3, a4, a5, a6⟩ := A5.c7
                  obtain ⟨f0, f1, f2, f3, f4, f5, f6⟩ := A5.f7
                  have cu1 := C5.c2.2
                  have HA5 := hideB2 A5
                  have HM5 := hideB2 M5
                  have HC5 := hideB2 C5
                  have HO5 := hideB2 O5
                  have HBW5 := hideB2 hbw5
                  clear C4 M4 A4 A5 C5 M5 O5 hbw5 c0 c1
                  go_wp2_with fail
                  refine (HRF.out _).mono ?_
                  rintro e w6 ⟨rfl, hb6⟩
                  have hlg1 : G1 < GB := by omega
                  have M6 := HM5.out.later hb6
                  have hlt6 := M6.lt
                  have HW6 := hideB2 ((below_then HBW5.out hb6))
                  have HM6 := hideB2 M6
                  have HO6 := hideB2 ((HO5.out.later hb6).alloc (.cells #[.string d, .string t] 88))
                  have HA6 := hideB2 (HA5.out.later hb6)
                  have HC6 := hideB2 (HC5.out.later hb6)
                  clear a0 a1 a2 a3 a4 a5 a6 f0 f1 f2 f3 f4 f5 f6 m0 m1 m2 m3 m4 m5 m6
                  have m5 := M6.c7.2.2.2.2.2.1
                  clear M6
                  go_wp2_with (at_builtin; refine wp_fapp2 rfl (.tmp 75) (.tmp 77) rfl (.slice va acc.length vc) acc rfl HO6.out d t (w6.heap.size + 1) (by simp) rfl (by omega) ?_; intro v7 W7 hbuf7 hbl7 hkp7; obtain ⟨va7, vc7, rfl⟩ := hbuf7.form; have hm7 := hbl7.block G1 hlg1; have HM7 := hideB2 (show Blk W7 G1 #[.string a, .string b, .int .i64 n, .string r, .bool false, .slice va acc.length vc, .string ⟨#[]⟩] 50 from hm7.trans (HM6.out.alloc _)); have hcell7 := HM7.out.c7.2.2.2.2.2.1; have hfree7 := HM7.out.free 5; clear hkp7)
                  have hm9 : Blk (W7.setCell ⟨G1, 5, none⟩ (.slice va7 (acc.length + 1) vc7)) G1 #[.string a, .string b, .int .i64 n, .string r, .bool false, .slice va7 (acc.length + 1) vc7, .string ⟨#[]⟩] 50 := HM7.out.set 5 _
                  have ha7 : Blk W7 w.heap.size #[.string ⟨#[]⟩, .string ⟨#[]⟩, .int .i64 0, .string ⟨#[]⟩, .bool false, .slice none 0 0, .string ⟨#[]⟩] 50 := (hbl7.block w.heap.size (by omega)).trans (HA6.out.alloc _)
                  have hc7 : Blk W7 G2 #[.string s, .int .i64 (K2 : Int)] 183 := (hbl7.block G2 (by omega)).trans (HC6.out.alloc _)
                  have hw7 : Below w.heap.size w W7 := (HW6.out.alloc HW6.out.size (.cells #[.string d, .string t] 88)).trans (hbl7.mono (by omega))
                  rw [List.length_append, List.length_singleton] at hbuf7
                  refine ⟨⟨false, K2, a, b, n, r, acc ++ [(d, t)], .slice va7 (acc.length + 1) vc7, rfl, hE, by rw [List.length_append, List.length_singleton]; omega, ?_, (fun h => by cases h), ha7.other (by omega) 5 _, hc7.other (by omega) 5 _, hm9, hbuf7.set hlg1 5 _, hw7.setCell (p := ⟨G1, 5, none⟩) (show w.heap.size ≤ G1 by omega) _⟩, ?_⟩
                  · intro _
                    rw [List.length_append, List.length_singleton, show 21 - (acc.length + 1) = 20 - acc.length by omega]; exact HY3.out
                  · have e9 : fldN G1 (W7.setCell ⟨G1, 5, none⟩ (.slice va7 (acc.length + 1) vc7)) = acc.length + 1 := by unfold fldN; rw [hm9.c7.2.2.2.2.2.1]
                    have e5 : fldN G1 wr = acc.length := by unfold fldN; rw [HMR.out.c7.2.2.2.2.2.1]
                    rw [e9, e5]; simp only [fstN]; omega
          · obtain ⟨rfl, rfl, rfl, rfl, rfl, rfl, hv⟩ := hf.out rfl
            have HZ := hideB2 (HXG.out h0)
            clear hy hf HXK HXB HXG HFN HFE HFB HFO hn
            injection hv with hv1 hv2 hv3
            subst hv1 hv3
            cases answer
            · have HFL : Hid (∀ W, Calls Tryz.prog 159 #[.string (lineAt s 0)] W fun e w' => fsPost (flX false (lineAt s 0)) e ∧ Below W.heap.size W w') := fun W => l6first_any (lineAt s 0) W HLZ.out
              have HFNN : Hid (flX false (lineAt s 0) = none → X = .error 400) := fun h => HZ.out.trans (hdZ_none h)
              have HFSS : Hid (∀ x, flX false (lineAt s 0) = some x → contX x (lnR s 21 (tlE s 0 + 2) []) = X) := fun x h => (HZ.out.trans (hdZ_some h)).symm
              clear HZ hge hz2 hlen h0 htc HN21
              generalize flX false (lineAt s 0) = F at *
              generalize tlE s 0 + 2 = K2 at *
              generalize lineAt s 0 = L at *
              cases F with
              | none =>
                obtain rfl : X = .error 400 := HFNN.out rfl
                clear HFNN HFSS
                go_wp2_with fail
                refine (HT.out _).mono ?_
                rintro e w4 ⟨rfl, hb4⟩
                have C4 := HCc.out.later hb4
                have M4 := HM.out.later hb4
                have A4 := HA.out.later hb4
                have hlc := C4.lt
                obtain ⟨x0, x1⟩ := C4.c2
                have y0 := C4.free 0
                have y1 := C4.free 1
                have M5 := (M4.oth2 (g := G2) (by omega) (.string s) (.int .i64 (K2 : Int))).alloc (.cells #[.string s, .int .i64 (K2 : Int)] 183)
                have A5 := (A4.oth2 (g := G2) (by omega) (.string s) (.int .i64 (K2 : Int))).alloc (.cells #[.string s, .int .i64 (K2 : Int)] 183)
                have C5 := (C4.set2 (.string s) (.int .i64 (K2 : Int))).alloc (.cells #[.string s, .int .i64 (K2 : Int)] 183)
                have O5 := ((((HOw.out.later hb4).set (g := G2) (by omega) 0 (.string s)).set (g := G2) (by omega) 1 (.int .i64 (K2 : Int)))).alloc (.cells #[.string s, .int .i64 (K2 : Int)] 183)
                have hbw5 := below_then (below_set2 (g := G2) (below_then HBw.out hb4) (by omega) (.string s) (.int .i64 (K2 : Int))) (below_a1 _ (.cells #[.string s, .int .i64 (K2 : Int)] 183))
                obtain ⟨m0, m1, m2, m3, m4, m5, m6⟩ := M5.c7
                obtain ⟨a0, a1, a2, a3, a4, a5, a6⟩ := A5.c7
                obtain ⟨f0, f1, f2, f3, f4, f5, f6⟩ := A5.f7
                have cu1 := C5.c2.2
                have HA5 := hideB2 A5
                have HM5 := hideB2 M5
                have HC5 := hideB2 C5
                have HO5 := hideB2 O5
                have HBW5 := hideB2 hbw5
                clear C4 M4 A4 A5 C5 M5 O5 hbw5 c0 c1
                go_wp2_with fail
                refine (HFL.out _).mono ?_
                rintro e w6 ⟨⟨a, b, n, r, rfl, hx⟩, hb6⟩
                clear hx m0 m1 m2 m3 m4 m5 m6 a0 a1 a2 a3 a4 a5 a6 f0 f1 f2 f3 f4 f5 f6
                simp only [Option.isSome]
                have M6 := HM5.out.later hb6
                obtain ⟨m0, m1, m2, m3, m4, m5, m6⟩ := M6.c7
                obtain ⟨g0, g1, g2, g3, g4, g5, g6⟩ := M6.f7
                have A6 := (HA5.out.later hb6).oth7 (g := G1) (by omega) (.string a) (.string b) (.int .i64 n) (.string r) (.bool false) (.slice none 0 0) (.string ⟨#[]⟩)
                obtain ⟨a0, a1, a2, a3, a4, a5, a6⟩ := A6.c7
                obtain ⟨f0, f1, f2, f3, f4, f5, f6⟩ := A6.f7
                have HA7 := hideB2 (A6.set7 (.string ⟨#[]⟩) (.string ⟨#[]⟩) (.int .i64 0) (.string ⟨#[]⟩) (.bool false) (.slice none 0 0) (.string ⟨#[]⟩))
                have HB7 := hideB2 (below_set7 (below_set7 (below_then HBW5.out hb6) (show w.heap.size ≤ G1 by omega) (.string a) (.string b) (.int .i64 n) (.string r) (.bool false) (.slice none 0 0) (.string ⟨#[]⟩)) (Nat.le_refl _) (.string ⟨#[]⟩) (.string ⟨#[]⟩) (.int .i64 0) (.string ⟨#[]⟩) (.bool false) (.slice none 0 0) (.string ⟨#[]⟩))
                clear A6 M6
                go_wp2
                refine bodyPost_ret (results_cellTT rfl _ _ _ rfl HA7.out Tryz.underlying50 Tryz.infoMsg) rfl ⟨.slice none 0 0, ?_, ?_⟩
                · rfl
                · exact (BufF.start w).later HB7.out
              | some x =>
                have HCX := hideB2 (HFSS.out x rfl)
                clear HFNN HFSS
                go_wp2_with fail
                refine (HT.out _).mono ?_
                rintro e w4 ⟨rfl, hb4⟩
                have C4 := HCc.out.later hb4
                have M4 := HM.out.later hb4
                have A4 := HA.out.later hb4
                have hlc := C4.lt
                obtain ⟨x0, x1⟩ := C4.c2
                have y0 := C4.free 0
                have y1 := C4.free 1
                have M5 := (M4.oth2 (g := G2) (by omega) (.string s) (.int .i64 (K2 : Int))).alloc (.cells #[.string s, .int .i64 (K2 : Int)] 183)
                have A5 := (A4.oth2 (g := G2) (by omega) (.string s) (.int .i64 (K2 : Int))).alloc (.cells #[.string s, .int .i64 (K2 : Int)] 183)
                have C5 := (C4.set2 (.string s) (.int .i64 (K2 : Int))).alloc (.cells #[.string s, .int .i64 (K2 : Int)] 183)
                have O5 := ((((HOw.out.later hb4).set (g := G2) (by omega) 0 (.string s)).set (g := G2) (by omega) 1 (.int .i64 (K2 : Int)))).alloc (.cells #[.string s, .int .i64 (K2 : Int)] 183)
                have hbw5 := below_then (below_set2 (g := G2) (below_then HBw.out hb4) (by omega) (.string s) (.int .i64 (K2 : Int))) (below_a1 _ (.cells #[.string s, .int .i64 (K2 : Int)] 183))
                obtain ⟨m0, m1, m2, m3, m4, m5, m6⟩ := M5.c7
                obtain ⟨a0, a1, a2, a3, a4, a5, a6⟩ := A5.c7
                obtain ⟨f0, f1, f2, f3, f4, f5, f6⟩ := A5.f7
                have cu1 := C5.c2.2
                have HA5 := hideB2 A5
                have HM5 := hideB2 M5
                have HC5 := hideB2 C5
                have HO5 := hideB2 O5
                have HBW5 := hideB2 hbw5
                clear C4 M4 A4 A5 C5 M5 O5 hbw5 c0 c1
                go_wp2_with fail
                refine (HFL.out _).mono ?_
                rintro e w6 ⟨⟨a, b, n, r, rfl, hx⟩, hb6⟩
                obtain rfl := hx x rfl
                clear hx m0 m1 m2 m3 m4 m5 m6 a0 a1 a2 a3 a4 a5 a6 f0 f1 f2 f3 f4 f5 f6
                simp only [Option.isSome]
                have M6 := HM5.out.later hb6
                obtain ⟨m0, m1, m2, m3, m4, m5, m6⟩ := M6.c7
                obtain ⟨g0, g1, g2, g3, g4, g5, g6⟩ := M6.f7
                have HM7 := hideB2 (M6.set7 (.string a) (.string b) (.int .i64 n) (.string r) (.bool false) (.slice none 0 0) (.string ⟨#[]⟩))
                have HA7 := hideB2 ((HA5.out.later hb6).oth7 (g := G1) (by omega) (.string a) (.string b) (.int .i64 n) (.string r) (.bool false) (.slice none 0 0) (.string ⟨#[]⟩))
                have HC7 := hideB2 ((HC5.out.later hb6).oth7 (g := G1) (by omega) (.string a) (.string b) (.int .i64 n) (.string r) (.bool false) (.slice none 0 0) (.string ⟨#[]⟩))
                have HO7 := hideB2 ((HO5.out.later hb6).set7 (g := G1) (by omega) (.string a) (.string b) (.int .i64 n) (.string r) (.bool false) (.slice none 0 0) (.string ⟨#[]⟩))
                have HB7 := hideB2 (below_set7 (below_then HBW5.out hb6) (show w.heap.size ≤ G1 by omega) (.string a) (.string b) (.int .i64 n) (.string r) (.bool false) (.slice none 0 0) (.string ⟨#[]⟩))
                clear M6
                go_wp2
                refine ⟨⟨false, K2, a, b, n, r, [], .slice none 0 0, rfl, hE, Nat.zero_le _, (fun _ => HCX.out), (fun h => by cases h), HA7.out, HC7.out, HM7.out, HO7.out, HB7.out⟩, ?_⟩
                simp only [fstN]; omega
            · have HFL : Hid (∀ W, Calls Tryz.prog 158 #[.string (lineAt s 0)] W fun e w' => fsPost (flX true (lineAt s 0)) e ∧ Below W.heap.size W w') := fun W => l6status_any (lineAt s 0) W HLZ.out
              have HFNN : Hid (flX true (lineAt s 0) = none → X = .error 400) := fun h => HZ.out.trans (hdZ_none h)
              have HFSS : Hid (∀ x, flX true (lineAt s 0) = some x → contX x (lnR s 21 (tlE s 0 + 2) []) = X) := fun x h => (HZ.out.trans (hdZ_some h)).symm
              clear HZ hge hz2 hlen h0 htc HN21
              generalize flX true (lineAt s 0) = F at *
              generalize tlE s 0 + 2 = K2 at *
              generalize lineAt s 0 = L at *
              cases F with
              | none =>
                obtain rfl : X = .error 400 := HFNN.out rfl
                clear HFNN HFSS
                go_wp2_with fail
                refine (HT.out _).mono ?_
                rintro e w4 ⟨rfl, hb4⟩
                have C4 := HCc.out.later hb4
                have M4 := HM.out.later hb4
                have A4 := HA.out.later hb4
                have hlc := C4.lt
                obtain ⟨x0, x1⟩ := C4.c2
                have y0 := C4.free 0
                have y1 := C4.free 1
                have M5 := (M4.oth2 (g := G2) (by omega) (.string s) (.int .i64 (K2 : Int))).alloc (.cells #[.string s, .int .i64 (K2 : Int)] 183)
                have A5 := (A4.oth2 (g := G2) (by omega) (.string s) (.int .i64 (K2 : Int))).alloc (.cells #[.string s, .int .i64 (K2 : Int)] 183)
                have C5 := (C4.set2 (.string s) (.int .i64 (K2 : Int))).alloc (.cells #[.string s, .int .i64 (K2 : Int)] 183)
                have O5 := ((((HOw.out.later hb4).set (g := G2) (by omega) 0 (.string s)).set (g := G2) (by omega) 1 (.int .i64 (K2 : Int)))).alloc (.cells #[.string s, .int .i64 (K2 : Int)] 183)
                have hbw5 := below_then (below_set2 (g := G2) (below_then HBw.out hb4) (by omega) (.string s) (.int .i64 (K2 : Int))) (below_a1 _ (.cells #[.string s, .int .i64 (K2 : Int)] 183))
                obtain ⟨m0, m1, m2, m3, m4, m5, m6⟩ := M5.c7
                obtain ⟨a0, a1, a2, a3, a4, a5, a6⟩ := A5.c7
                obtain ⟨f0, f1, f2, f3, f4, f5, f6⟩ := A5.f7
                have cu1 := C5.c2.2
                have HA5 := hideB2 A5
                have HM5 := hideB2 M5
                have HC5 := hideB2 C5
                have HO5 := hideB2 O5
                have HBW5 := hideB2 hbw5
                clear C4 M4 A4 A5 C5 M5 O5 hbw5 c0 c1
                go_wp2_with fail
                refine (HFL.out _).mono ?_
                rintro e w6 ⟨⟨a, b, n, r, rfl, hx⟩, hb6⟩
                clear hx m0 m1 m2 m3 m4 m5 m6 a0 a1 a2 a3 a4 a5 a6 f0 f1 f2 f3 f4 f5 f6
                simp only [Option.isSome]
                have M6 := HM5.out.later hb6
                obtain ⟨m0, m1, m2, m3, m4, m5, m6⟩ := M6.c7
                obtain ⟨g0, g1, g2, g3, g4, g5, g6⟩ := M6.f7
                have A6 := (HA5.out.later hb6).oth7 (g := G1) (by omega) (.string a) (.string b) (.int .i64 n) (.string r) (.bool false) (.slice none 0 0) (.string ⟨#[]⟩)
                obtain ⟨a0, a1, a2, a3, a4, a5, a6⟩ := A6.c7
                obtain ⟨f0, f1, f2, f3, f4, f5, f6⟩ := A6.f7
                have HA7 := hideB2 (A6.set7 (.string ⟨#[]⟩) (.string ⟨#[]⟩) (.int .i64 0) (.string ⟨#[]⟩) (.bool false) (.slice none 0 0) (.string ⟨#[]⟩))
                have HB7 := hideB2 (below_set7 (below_set7 (below_then HBW5.out hb6) (show w.heap.size ≤ G1 by omega) (.string a) (.string b) (.int .i64 n) (.string r) (.bool false) (.slice none 0 0) (.string ⟨#[]⟩)) (Nat.le_refl _) (.string ⟨#[]⟩) (.string ⟨#[]⟩) (.int .i64 0) (.string ⟨#[]⟩) (.bool false) (.slice none 0 0) (.string ⟨#[]⟩))
                clear A6 M6
                go_wp2
                refine bodyPost_ret (results_cellTT rfl _ _ _ rfl HA7.out Tryz.underlying50 Tryz.infoMsg) rfl ⟨.slice none 0 0, ?_, ?_⟩
                · rfl
                · exact (BufF.start w).later HB7.out
              | some x =>
                have HCX := hideB2 (HFSS.out x rfl)
                clear HFNN HFSS
                go_wp2_with fail
                refine (HT.out _).mono ?_
                rintro e w4 ⟨rfl, hb4⟩
                have C4 := HCc.out.later hb4
                have M4 := HM.out.later hb4
                have A4 := HA.out.later hb4
                have hlc := C4.lt
                obtain ⟨x0, x1⟩ := C4.c2
                have y0 := C4.free 0
                have y1 := C4.free 1
                have M5 := (M4.oth2 (g := G2) (by omega) (.string s) (.int .i64 (K2 : Int))).alloc (.cells #[.string s, .int .i64 (K2 : Int)] 183)
                have A5 := (A4.oth2 (g := G2) (by omega) (.string s) (.int .i64 (K2 : Int))).alloc (.cells #[.string s, .int .i64 (K2 : Int)] 183)
                have C5 := (C4.set2 (.string s) (.int .i64 (K2 : Int))).alloc (.cells #[.string s, .int .i64 (K2 : Int)] 183)
                have O5 := ((((HOw.out.later hb4).set (g := G2) (by omega) 0 (.string s)).set (g := G2) (by omega) 1 (.int .i64 (K2 : Int)))).alloc (.cells #[.string s, .int .i64 (K2 : Int)] 183)
                have hbw5 := below_then (below_set2 (g := G2) (below_then HBw.out hb4) (by omega) (.string s) (.int .i64 (K2 : Int))) (below_a1 _ (.cells #[.string s, .int .i64 (K2 : Int)] 183))
                obtain ⟨m0, m1, m2, m3, m4, m5, m6⟩ := M5.c7
                obtain ⟨a0, a1, a2, a3, a4, a5, a6⟩ := A5.c7
                obtain ⟨f0, f1, f2, f3, f4, f5, f6⟩ := A5.f7
                have cu1 := C5.c2.2
                have HA5 := hideB2 A5
                have HM5 := hideB2 M5
                have HC5 := hideB2 C5
                have HO5 := hideB2 O5
                have HBW5 := hideB2 hbw5
                clear C4 M4 A4 A5 C5 M5 O5 hbw5 c0 c1
                go_wp2_with fail
                refine (HFL.out _).mono ?_
                rintro e w6 ⟨⟨a, b, n, r, rfl, hx⟩, hb6⟩
                obtain rfl := hx x rfl
                clear hx m0 m1 m2 m3 m4 m5 m6 a0 a1 a2 a3 a4 a5 a6 f0 f1 f2 f3 f4 f5 f6
                simp only [Option.isSome]
                have M6 := HM5.out.later hb6
                obtain ⟨m0, m1, m2, m3, m4, m5, m6⟩ := M6.c7
                obtain ⟨g0, g1, g2, g3, g4, g5, g6⟩ := M6.f7
                have HM7 := hideB2 (M6.set7 (.string a) (.string b) (.int .i64 n) (.string r) (.bool false) (.slice none 0 0) (.string ⟨#[]⟩))
                have HA7 := hideB2 ((HA5.out.later hb6).oth7 (g := G1) (by omega) (.string a) (.string b) (.int .i64 n) (.string r) (.bool false) (.slice none 0 0) (.string ⟨#[]⟩))
                have HC7 := hideB2 ((HC5.out.later hb6).oth7 (g := G1) (by omega) (.string a) (.string b) (.int .i64 n) (.string r) (.bool false) (.slice none 0 0) (.string ⟨#[]⟩))
                have HO7 := hideB2 ((HO5.out.later hb6).set7 (g := G1) (by omega) (.string a) (.string b) (.int .i64 n) (.string r) (.bool false) (.slice none 0 0) (.string ⟨#[]⟩))
                have HB7 := hideB2 (below_set7 (below_then HBW5.out hb6) (show w.heap.size ≤ G1 by omega) (.string a) (.string b) (.int .i64 n) (.string r) (.bool false) (.slice none 0 0) (.string ⟨#[]⟩))
                clear M6
                go_wp2
                refine ⟨⟨false, K2, a, b, n, r, [], .slice none 0 0, rfl, hE, Nat.zero_le _, (fun _ => HCX.out), (fun h => by cases h), HA7.out, HC7.out, HM7.out, HO7.out, HB7.out⟩, ?_⟩
                simp only [fstN]; omega
        · obtain ⟨h4, h5⟩ := hlC_431 htc h0
          obtain rfl : X = .error 431 := by rw [HXK.out h0, h4]
          clear hy hf HXK HXB HXG hn
          by_cases h3 : 300 < tlE s k - k
          · have h3i : (300 : Int) < ((lineAt s k).size : Int) := by omega
            clear h5 hE hge hz2 h0 htc h3 h4
            generalize tlE s k + 2 = K2 at *
            generalize lineAt s k = L at *
            go_wp2_with fail
            refine (HT.out _).mono ?_
            rintro e w4 ⟨rfl, hb4⟩
            have C4 := HCc.out.later hb4
            have M4 := HM.out.later hb4
            have A4 := HA.out.later hb4
            have hlc := C4.lt
            obtain ⟨x0, x1⟩ := C4.c2
            have y0 := C4.free 0
            have y1 := C4.free 1
            have M5 := (M4.oth2 (g := G2) (by omega) (.string s) (.int .i64 (K2 : Int))).alloc (.cells #[.string s, .int .i64 (K2 : Int)] 183)
            have A5 := (A4.oth2 (g := G2) (by omega) (.string s) (.int .i64 (K2 : Int))).alloc (.cells #[.string s, .int .i64 (K2 : Int)] 183)
            have C5 := (C4.set2 (.string s) (.int .i64 (K2 : Int))).alloc (.cells #[.string s, .int .i64 (K2 : Int)] 183)
            have O5 := ((((HOw.out.later hb4).set (g := G2) (by omega) 0 (.string s)).set (g := G2) (by omega) 1 (.int .i64 (K2 : Int)))).alloc (.cells #[.string s, .int .i64 (K2 : Int)] 183)
            have hbw5 := below_then (below_set2 (g := G2) (below_then HBw.out hb4) (by omega) (.string s) (.int .i64 (K2 : Int))) (below_a1 _ (.cells #[.string s, .int .i64 (K2 : Int)] 183))
            obtain ⟨m0, m1, m2, m3, m4, m5, m6⟩ := M5.c7
            obtain ⟨a0, a1, a2, a3, a4, a5, a6⟩ := A5.c7
            obtain ⟨f0, f1, f2, f3, f4, f5, f6⟩ := A5.f7
            have cu1 := C5.c2.2
            have HA5 := hideB2 A5
            have HM5 := hideB2 M5
            have HC5 := hideB2 C5
            have HO5 := hideB2 O5
            have HBW5 := hideB2 hbw5
            clear C4 M4 A4 A5 C5 M5 O5 hbw5 c0 c1
            go_wp2
            refine bodyPost_ret (results_cellTT rfl _ _ _ rfl (HA5.out.set7 (.string ⟨#[]⟩) (.string ⟨#[]⟩) (.int .i64 0) (.string ⟨#[]⟩) (.bool false) (.slice none 0 0) (.string ⟨#[]⟩)) Tryz.underlying50 Tryz.infoMsg) rfl ⟨.slice none 0 0, ?_, ?_⟩
            · rfl
            · exact (BufF.start w).later (below_set7 HBW5.out (Nat.le_refl _) (.string ⟨#[]⟩) (.string ⟨#[]⟩) (.int .i64 0) (.string ⟨#[]⟩) (.bool false) (.slice none 0 0) (.string ⟨#[]⟩))
          · have d300 : decide ((300 : Int) < ((lineAt s k).size : Int)) = false := decide_eq_false (by omega)
            have h15 : (1500 : Int) < ((tlE s k + 2 : Nat) : Int) := by omega
            clear h5 hE hge hz2 h0 htc h3 h4
            generalize tlE s k + 2 = K2 at *
            generalize lineAt s k = L at *
            go_wp2_with fail
            refine (HT.out _).mono ?_
            rintro e w4 ⟨rfl, hb4⟩
            have C4 := HCc.out.later hb4
            have M4 := HM.out.later hb4
            have A4 := HA.out.later hb4
            have hlc := C4.lt
            obtain ⟨x0, x1⟩ := C4.c2
            have y0 := C4.free 0
            have y1 := C4.free 1
            have M5 := (M4.oth2 (g := G2) (by omega) (.string s) (.int .i64 (K2 : Int))).alloc (.cells #[.string s, .int .i64 (K2 : Int)] 183)
            have A5 := (A4.oth2 (g := G2) (by omega) (.string s) (.int .i64 (K2 : Int))).alloc (.cells #[.string s, .int .i64 (K2 : Int)] 183)
            have C5 := (C4.set2 (.string s) (.int .i64 (K2 : Int))).alloc (.cells #[.string s, .int .i64 (K2 : Int)] 183)
            have O5 := ((((HOw.out.later hb4).set (g := G2) (by omega) 0 (.string s)).set (g := G2) (by omega) 1 (.int .i64 (K2 : Int)))).alloc (.cells #[.string s, .int .i64 (K2 : Int)] 183)
            have hbw5 := below_then (below_set2 (g := G2) (below_then HBw.out hb4) (by omega) (.string s) (.int .i64 (K2 : Int))) (below_a1 _ (.cells #[.string s, .int .i64 (K2 : Int)] 183))
            obtain ⟨m0, m1, m2, m3, m4, m5, m6⟩ := M5.c7
            obtain ⟨a0, a1, a2, a3, a4, a5, a6⟩ := A5.c7
            obtain ⟨f0, f1, f2, f3, f4, f5, f6⟩ := A5.f7
            have cu1 := C5.c2.2
            have HA5 := hideB2 A5
            have HM5 := hideB2 M5
            have HC5 := hideB2 C5
            have HO5 := hideB2 O5
            have HBW5 := hideB2 hbw5
            clear C4 M4 A4 A5 C5 M5 O5 hbw5 c0 c1
            go_wp2
            refine bodyPost_ret (results_cellTT rfl _ _ _ rfl (HA5.out.set7 (.string ⟨#[]⟩) (.string ⟨#[]⟩) (.int .i64 0) (.string ⟨#[]⟩) (.bool false) (.slice none 0 0) (.string ⟨#[]⟩)) Tryz.underlying50 Tryz.infoMsg) rfl ⟨.slice none 0 0, ?_, ?_⟩
            · rfl
            · exact (BufF.start w).later (below_set7 HBW5.out (Nat.le_refl _) (.string ⟨#[]⟩) (.string ⟨#[]⟩) (.int .i64 0) (.string ⟨#[]⟩) (.bool false) (.slice none 0 0) (.string ⟨#[]⟩))
      · obtain ⟨c, hc0, hcv⟩ := tlV_not htc
        have HT := hideB2 (fun W => sTakeLine_ok s k W HSM.out hk)
        rw [hcv] at HT
        obtain rfl : X = .error 400 := by rw [HXK.out (by rw [hlC_bad htc]; decide), hlC_bad htc]
        clear hy hf HXK HXB HXG htc hcv
        unfold curZ at HT
        go_wp2_with fail
        refine (HT.out _).mono ?_
        rintro e w4 ⟨rfl, hb4⟩
        have hal := below_a1 w4 (.cells #[.string ⟨#[]⟩, .int .i64 0] 183)
        have A4 := (HA.out.later hb4).alloc (.cells #[.string ⟨#[]⟩, .int .i64 0] 183)
        have hbw5 := below_then (below_then HBw.out hb4) hal
        obtain ⟨a0, a1, a2, a3, a4, a5, a6⟩ := A4.c7
        obtain ⟨f0, f1, f2, f3, f4, f5, f6⟩ := A4.f7
        have HA5 := hideB2 A4
        have HBW5 := hideB2 hbw5
        go_wp2
        refine bodyPost_ret (results_cellTT rfl _ _ _ rfl (HA5.out.set7 (.string ⟨#[]⟩) (.string ⟨#[]⟩) (.int .i64 0) (.string ⟨#[]⟩) (.bool false) (.slice none 0 0) (.string ⟨#[]⟩)) Tryz.underlying50 Tryz.infoMsg) rfl ⟨.slice none 0 0, ?_, ?_⟩
        · rfl
        · exact (BufF.start w).later (below_set7 HBW5.out (Nat.le_refl _) (.string ⟨#[]⟩) (.string ⟨#[]⟩) (.int .i64 0) (.string ⟨#[]⟩) (.bool false) (.slice none 0 0) (.string ⟨#[]⟩))
end Go.Proofs.YthdgeepedofleaaGreatDoor
namespace Go.Proofs.YthdgeepedofleaaGreatDoor
set_option linter.unusedVariables false
set_option linter.unusedSimpArgs false
open Go.RowKit
def blB : ByteArray := ⟨#[32]⟩
theorem indexB_bl (s : ByteArray) : Lib.indexB s ⟨#[32]⟩ = Lib.indexByte s.data.toList 32 := by
  show Lib.index s.data.toList [32] = _
  exact Lib.index_one _ _
set_option maxRecDepth 100000 in
set_option maxHeartbeats 1000000 in
theorem Index1B_any (s : ByteArray) (w : World) :
    Calls Tryz.prog 94 #[.string s, .string ⟨#[32]⟩] w fun e w' => e = .returned (.int .i64 (Lib.indexByte s.data.toList 32)) ∧ w' = w := by
  cases h : eqB ⟨#[32]⟩ s
  · have h1 : (([32] : List UInt8) == s.toList) = false := by
      rw [show ([32] : List UInt8) = (⟨#[32]⟩ : ByteArray).toList by rw [ByteArray.toList_eq]]
      exact h
    have HI := hideB2 (fun W => IndexByte_any s 32 W)
    clear h
    go_enter Tryz.func94, Tryz.ntmps94
    go_wp2_with (go_at_call 114; refine (HI.out _).mono ?_; rintro e w' ⟨rfl, rfl⟩)
    go_ret
    exact ⟨rfl, rfl⟩
  · have h1 : (([32] : List UInt8) == s.toList) = true := by
      rw [show ([32] : List UInt8) = (⟨#[32]⟩ : ByteArray).toList by rw [ByteArray.toList_eq]]
      exact h
    have HE := hideB2 (show Lib.indexByte s.data.toList 32 = 0 by rw [← eqB_iff.1 h]; simp [Lib.indexByte])
    clear h
    go_enter Tryz.func94, Tryz.ntmps94
    go_wp2
    go_ret
    exact ⟨ret_int HE.out, rfl⟩
set_option maxRecDepth 100000 in
set_option maxHeartbeats 1000000 in
theorem IndexBl_any (s : ByteArray) (w : World) :
    Calls Tryz.prog 64 #[.string s, .string ⟨#[32]⟩] w fun e w' => e = .returned (.int .i64 (Lib.indexB s ⟨#[32]⟩)) ∧ w' = w := by
  have HI := hideB2 (fun W => Index1B_any s W)
  rw [← indexB_bl] at HI
  generalize Lib.indexB s ⟨#[32]⟩ = r at *
  go_enter Tryz.func64, Tryz.ntmps64
  go_wp2_with (go_at_call 94; refine (HI.out _).mono ?_; rintro e w' ⟨rfl, rfl⟩)
  go_ret
  exact ⟨rfl, rfl⟩
theorem CountBl_any (s : ByteArray) (w : World) :
    Calls Tryz.prog 294 #[.string s, .string ⟨#[32]⟩] w fun e w' => e = .returned (.int .i64 (Lib.countB s ⟨#[32]⟩)) ∧ w' = w := by
  refine (Any.strings_Count_one { Tryz.lays221 with } s 32 w).mono fun e w' ⟨he, hw⟩ => ⟨?_, hw⟩
  rw [he]
  show _ = Ending.returned (Value.int .i64 ((Lib.count s.data.toList [32] : Nat) : Int))
  rw [Lib.count_one]
  rfl
theorem genSplit_bl (s : ByteArray) (n : Int) (N : Nat) (w : World) (hs : s.size < 4294967281) (hn0 : n ≠ 0) (hn63 : n ≤ 9223372036854775807) (hN : (N : Int) = min (if n < 0 then (Lib.countB s ⟨#[32]⟩ : Int) + 1 else n) ((s.size : Int) + 1)) :
    Calls Tryz.prog 263 #[.string s, .string ⟨#[32]⟩, .int .i64 0, .int .i64 n] w fun e w' =>
      e = .returned (.slice (some ⟨w.heap.size, 0, none⟩) (Lib.splitB ⟨#[32]⟩ 0 (N - 1) s).length N) ∧ w' = w.alloc (.cells (Lib.cellsOf (Lib.splitB ⟨#[32]⟩ 0 (N - 1) s) N) 9) :=
  Any.strings_genSplit_core Tryz.lays221 (by kernel_rfl) s ⟨#[32]⟩ 0 n N w hs (Nat.le_refl _) (Nat.zero_le _) (fun x c _ => IndexBl_any x _) (CountBl_any s w) hn0 hn63 hN
set_option maxHeartbeats 1000000 in
theorem SplitBl_any (s : ByteArray) (w : World) (hs : s.size < 4294967281) :
    Calls Tryz.prog 227 #[.string s, .string ⟨#[32]⟩] w fun e w' =>
      e = .returned (.slice (some ⟨w.heap.size, 0, none⟩) (Lib.countB s ⟨#[32]⟩ + 1) (Lib.countB s ⟨#[32]⟩ + 1)) ∧ w' = w.alloc (.cells ((Lib.splitB ⟨#[32]⟩ 0 (Lib.countB s ⟨#[32]⟩) s).map Value.string).toArray 9) := by
  have h1 : 1 ≤ (⟨#[32]⟩ : ByteArray).size := Nat.le_refl _
  have hle := Lib.countB_le ⟨#[32]⟩ h1 s.size s (Nat.le_refl _)
  have hlen := Lib.splitB_all ⟨#[32]⟩ h1 0 _ s rfl
  have c := genSplit_bl s (-1) (Lib.countB s ⟨#[32]⟩ + 1) w hs (by decide) (by decide) (by rw [if_pos (by decide)]; omega)
  rw [Nat.add_sub_cancel, hlen] at c
  have e2 : Lib.cellsOf (Lib.splitB ⟨#[32]⟩ 0 (Lib.countB s ⟨#[32]⟩) s) (Lib.countB s ⟨#[32]⟩ + 1) = ((Lib.splitB ⟨#[32]⟩ 0 (Lib.countB s ⟨#[32]⟩) s).map Value.string).toArray := by rw [← hlen]; exact Lib.cellsOf_full _
  rw [e2] at c
  have HC := hideB2 c
  clear c e2 hlen
  generalize ((Lib.splitB ⟨#[32]⟩ 0 (Lib.countB s ⟨#[32]⟩) s).map Value.string).toArray = arr at *
  generalize Lib.countB s ⟨#[32]⟩ = cn at *
  go_enter Tryz.func227, Tryz.ntmps227
  go_wp2_with (go_at_call 263; refine HC.out.mono ?_; rintro e w' ⟨rfl, hw⟩; rw [hw])
  go_ret
  exact ⟨rfl, rfl⟩
set_option maxHeartbeats 1000000 in
theorem SplitNBl_any (s : ByteArray) (w : World) (hs : s.size < 4294967281) :
    Calls Tryz.prog 282 #[.string s, .string ⟨#[32]⟩, .int .i64 3] w fun e w' =>
      e = .returned (.slice (some ⟨w.heap.size, 0, none⟩) (Lib.splitB ⟨#[32]⟩ 0 (min 3 (s.size + 1) - 1) s).length (min 3 (s.size + 1))) ∧ w' = w.alloc (.cells (Lib.cellsOf (Lib.splitB ⟨#[32]⟩ 0 (min 3 (s.size + 1) - 1) s) (min 3 (s.size + 1))) 9) := by
  have c := genSplit_bl s 3 (min 3 (s.size + 1)) w hs (by decide) (by decide) (by rw [if_neg (by decide)]; omega)
  have HC := hideB2 c
  clear c
  generalize Lib.cellsOf (Lib.splitB ⟨#[32]⟩ 0 (min 3 (s.size + 1) - 1) s) (min 3 (s.size + 1)) = arr at *
  generalize (Lib.splitB ⟨#[32]⟩ 0 (min 3 (s.size + 1) - 1) s).length = ln at *
  generalize min 3 (s.size + 1) = mn at *
  go_enter Tryz.func282, Tryz.ntmps282
  go_wp2_with (go_at_call 263; refine HC.out.mono ?_; rintro e w' ⟨rfl, hw⟩; rw [hw])
  go_ret
  exact ⟨rfl, rfl⟩
end Go.Proofs.YthdgeepedofleaaGreatDoor
